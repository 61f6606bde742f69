package spec_test

import (
	"bytes"
	"encoding/binary"
	"math"
	"math/rand"
	"reflect"
	"slices"
	"strings"
	"testing"
	"time"

	"compline/api"
	"compline/octet"
	"compline/spec"
)

// written is a value's bytes by the words of chapters 1 and 14, field by field as api has them.
func written(b []byte, v reflect.Value) []byte {
	switch v.Kind() {
	case reflect.String:
		return append(binary.AppendUvarint(b, uint64(v.Len())), v.String()...)
	case reflect.Int, reflect.Int64:
		return binary.AppendVarint(b, v.Int())
	case reflect.Uint64:
		return binary.AppendUvarint(b, v.Uint())
	case reflect.Slice:
		b = binary.AppendUvarint(b, uint64(v.Len()))
		for i := range v.Len() {
			b = written(b, v.Index(i))
		}
		return b
	case reflect.Struct:
		for i := range v.NumField() {
			b = written(b, v.Field(i))
		}
		return b
	}
	panic("a field of a kind without bytes")
}

// model of Put and of PutJob.
func specBytes(s api.Spec) []byte { return written(nil, reflect.ValueOf(s)) }
func jobBytes(j api.Job) []byte   { return written(nil, reflect.ValueOf(j)) }

func put(s api.Spec) []byte {
	w := &octet.Writer{}
	spec.Put(w, s)
	return w.Bytes()
}

func putJob(j api.Job) []byte {
	w := &octet.Writer{}
	spec.PutJob(w, j)
	return w.Bytes()
}

// alike is whether two specs, or two jobs, are the same, nil and empty lists being the same.
func alike(a, b api.Spec) bool {
	if len(a.Deps) == 0 && len(b.Deps) == 0 {
		a.Deps, b.Deps = nil, nil
	}
	return reflect.DeepEqual(a, b)
}

func alikeJobs(a, b api.Job) bool {
	one, other := a.Spec, b.Spec
	a.Spec, b.Spec = api.Spec{}, api.Spec{}
	return alike(one, other) && reflect.DeepEqual(a, b)
}

// any texts, of at most 255 bytes.
func texts() []string {
	return []string{"", "a", "nightly", "\x00", "\xff\xfe", "日本", "A B", strings.Repeat("x", 127), strings.Repeat("y", 128), strings.Repeat("\xf0", 255)}
}

// numbers at their ends.
func numbers() []int64 {
	return []int64{0, 1, -1, 2, -2, 63, 64, -64, -65, 127, 128, -128, 1 << 20, 1 << 40, -1 << 40, math.MaxInt32, math.MinInt32, math.MaxInt64, math.MinInt64}
}

// chanceSpec is any spec whose texts and rows can be read.
func chanceSpec(r *rand.Rand) api.Spec {
	text := func() string { return texts()[r.Intn(len(texts()))] }
	number := func() int64 {
		if r.Intn(2) == 0 {
			return numbers()[r.Intn(len(numbers()))]
		}
		return int64(r.Uint64() >> r.Intn(64))
	}
	s := api.Spec{Name: text(), Tenant: text(), Priority: int(number()), Delay: number(), Base: number(), Cap: number(), Attempts: int(number()), Lease: number(), Cron: text(), Catch: int(number())}
	for range r.Intn(10) {
		s.Deps = append(s.Deps, text())
	}
	return s
}

// chanceJob is any job whose texts and rows can be read.
func chanceJob(r *rand.Rand) api.Job {
	s := chanceSpec(r)
	j := api.Job{Spec: chanceSpec(r), State: s.Priority, Due: s.Delay, Token: r.Uint64() >> r.Intn(64), Failed: s.Attempts, Result: s.Base, Worker: s.Name, Order: r.Uint64() >> r.Intn(64), Created: s.Cap, Runs: s.Catch, Missed: int(s.Lease)}
	if r.Intn(5) == 0 {
		j.Token, j.Order = math.MaxUint64, math.MaxUint64-1
	}
	return j
}

// fullJob is a job each of whose fields has a value of its own.
func fullJob() api.Job {
	return api.Job{
		Spec:  api.Spec{Name: "ab", Tenant: "c", Priority: 1, Delay: -2, Deps: []string{"d", "", "ef"}, Base: 3, Cap: 300, Attempts: -5, Lease: 6, Cron: "g", Catch: 7},
		State: 8, Due: 9, Token: 10, Failed: 11, Result: -12, Worker: "h", Order: 300, Created: 14, Runs: 15, Missed: 16,
	}
}

// fullBytes is fullJob's spec, and fullJob, as bytes.
func fullBytes() (ofSpec, ofJob []byte) {
	ofSpec = []byte{
		2, 'a', 'b', 1, 'c', // Name, Tenant
		2, 3, // Priority, Delay
		3, 1, 'd', 0, 2, 'e', 'f', // Deps
		6, 0xd8, 4, 9, 12, // Base, Cap, Attempts, Lease
		1, 'g', 14, // Cron, Catch
	}
	ofJob = append(slices.Clone(ofSpec),
		16, 18, 10, 22, 23, // State, Due, Token, Failed, Result
		1, 'h', 0xac, 2, // Worker, Order
		28, 30, 32) // Created, Runs, Missed
	return ofSpec, ofJob
}

func TestBytes(t *testing.T) {
	j := fullJob()
	ofSpec, ofJob := fullBytes()
	if b := put(j.Spec); !bytes.Equal(b, ofSpec) {
		t.Error(b)
	}
	if b := putJob(j); !bytes.Equal(b, ofJob) {
		t.Error(b)
	}
	r := octet.Read(ofSpec)
	if s := spec.Get(r); !alike(s, j.Spec) || r.End() != api.OK {
		t.Errorf("%#v, %d", s, r.End())
	}
	r = octet.Read(ofJob)
	if k := spec.GetJob(r); !alikeJobs(k, j) || r.End() != api.OK {
		t.Errorf("%#v, %d", k, r.End())
	}
	if b := put(api.Spec{}); !bytes.Equal(b, make([]byte, 11)) {
		t.Error(b)
	}
	if b := putJob(api.Job{}); !bytes.Equal(b, make([]byte, 21)) {
		t.Error(b)
	}
}

// holds holds the bytes of a spec and a job against the model, and what is read of them against them.
func holds(t *testing.T, j api.Job) {
	t.Helper()
	b, c := put(j.Spec), putJob(j)
	if !bytes.Equal(b, specBytes(j.Spec)) || !bytes.Equal(c, jobBytes(j)) {
		t.Fatalf("%#v: %v, %v", j, b, c)
	}
	r := octet.Read(b)
	if s := spec.Get(r); r.End() != api.OK || !alike(s, j.Spec) || !spec.Same(s, j.Spec) {
		t.Fatalf("%#v: %#v, %d", j.Spec, s, r.End())
	}
	r = octet.Read(c)
	if k := spec.GetJob(r); r.End() != api.OK || !alikeJobs(k, j) {
		t.Fatalf("%#v: %#v, %d", j, k, r.End())
	}
}

// TestFields: each field alone, with each value that it may have as bytes, whether such a spec may be or not.
func TestFields(t *testing.T) {
	holds(t, api.Job{})
	holds(t, fullJob())
	holds(t, api.Job{Spec: once()})
	holds(t, api.Job{Spec: often()})
	var set func(v reflect.Value, j *api.Job)
	set = func(v reflect.Value, j *api.Job) {
		switch v.Kind() {
		case reflect.String:
			for _, s := range texts() {
				v.SetString(s)
				holds(t, *j)
			}
		case reflect.Int, reflect.Int64:
			for _, n := range numbers() {
				v.SetInt(n)
				holds(t, *j)
			}
		case reflect.Uint64:
			for _, n := range numbers() {
				v.SetUint(uint64(n))
				holds(t, *j)
			}
		case reflect.Slice:
			for _, l := range [][]string{nil, {}, {""}, texts(), {"b", "a", "a"}, some(127), some(128), some(254), some(255), slices.Repeat(texts()[9:], 255)} {
				v.Set(reflect.ValueOf(l))
				holds(t, *j)
			}
		case reflect.Struct:
			for i := range v.NumField() {
				set(v.Field(i), j)
			}
			return
		}
		v.SetZero()
	}
	for _, j := range []api.Job{{}, fullJob()} {
		set(reflect.ValueOf(&j).Elem(), &j)
	}
}

func TestBytesChance(t *testing.T) {
	r := rand.New(rand.NewSource(14))
	for range 20000 {
		holds(t, chanceJob(r))
	}
}

// TestRows: specs and jobs behind one another, with other things between, are read one by one.
func TestRows(t *testing.T) {
	w := &octet.Writer{}
	chance := rand.New(rand.NewSource(1))
	var jobs []api.Job
	for i := range uint64(50) {
		j := chanceJob(chance)
		jobs = append(jobs, j)
		w.Num(i)
		spec.Put(w, j.Spec)
		spec.PutJob(w, j)
	}
	octet.Put(w, jobs, spec.PutJob)
	w.Raw([]byte("end"))
	r := octet.Read(w.Bytes())
	for i := range uint64(50) {
		if r.Num() != i || !alike(spec.Get(r), jobs[i].Spec) || !alikeJobs(spec.GetJob(r), jobs[i]) || r.Err() != api.OK {
			t.Fatal(i, r.Err())
		}
	}
	if l := octet.Get(r, 128, spec.GetJob); !slices.EqualFunc(l, jobs, alikeJobs) {
		t.Error(len(l))
	}
	if r.Err() != api.OK || r.Left() != 3 {
		t.Error(r.Err(), r.Left())
	}
}

// refused holds what is read of bytes against the zero one, and the reader's error against the one that is promised.
func refused(t *testing.T, what string, r *octet.Reader, job bool, want api.Errno) {
	t.Helper()
	if job {
		if j := spec.GetJob(r); !reflect.DeepEqual(j, api.Job{}) {
			t.Errorf("%s: %#v", what, j)
		}
	} else if s := spec.Get(r); !reflect.DeepEqual(s, api.Spec{}) {
		t.Errorf("%s: %#v", what, s)
	}
	if r.Err() != want || r.Left() != 0 {
		t.Errorf("%s: %d, not %d; %d left", what, r.Err(), want, r.Left())
	}
}

func TestShort(t *testing.T) {
	ofSpec, ofJob := fullBytes()
	for n := range ofSpec {
		refused(t, "a spec's beginning", octet.Read(ofSpec[:n]), false, api.ErrShort)
	}
	for n := range ofJob {
		refused(t, "a job's beginning", octet.Read(ofJob[:n]), true, api.ErrShort)
	}
	j := fullJob()
	j.Spec.Cron = strings.Repeat("x", 255)
	b := putJob(j)
	for n := range b {
		refused(t, "a long job's beginning", octet.Read(b[:n]), true, api.ErrShort)
	}
}

// TestLong: a text of 255 bytes is read, one of 256 isn't, whichever it is; likewise of Deps.
func TestLong(t *testing.T) {
	for n := 250; n <= 600; n++ {
		text := strings.Repeat("x", n)
		for _, set := range []func(j *api.Job){
			func(j *api.Job) { j.Spec.Name = text },
			func(j *api.Job) { j.Spec.Tenant = text },
			func(j *api.Job) { j.Spec.Cron = text },
			func(j *api.Job) { j.Spec.Deps = []string{text} },
			func(j *api.Job) { j.Spec.Deps = []string{"a", "b", text} },
			func(j *api.Job) { j.Spec.Deps = some(n) },
			func(j *api.Job) { j.Spec.Deps = make([]string, n) },
			func(j *api.Job) { j.Worker = text },
		} {
			j := fullJob()
			set(&j)
			if n <= 255 {
				holds(t, j)
				continue
			}
			// It is written all the same.
			b := putJob(j)
			if !bytes.Equal(b, jobBytes(j)) || !bytes.Equal(put(j.Spec), specBytes(j.Spec)) {
				t.Fatal(n, b)
			}
			refused(t, "a long one", octet.Read(b), true, api.ErrLong)
			if j.Worker != text {
				refused(t, "a long one", octet.Read(put(j.Spec)), false, api.ErrLong)
			}
		}
	}
	// How long it says that it is, is asked ahead of what is there, and nothing is made of that size.
	for _, n := range []uint64{256, 1 << 31, 1 << 40, math.MaxInt64, 1 << 63, math.MaxUint64} {
		b := binary.AppendUvarint(nil, n)
		refused(t, "a great text", octet.Read(b), false, api.ErrLong)
		refused(t, "great Deps", octet.Read(append(make([]byte, 4), b...)), false, api.ErrLong)
		refused(t, "a great text of Deps", octet.Read(append([]byte{0, 0, 0, 0, 1}, b...)), false, api.ErrLong)
		refused(t, "a great Cron", octet.Read(append(make([]byte, 9), b...)), true, api.ErrLong)
		refused(t, "a great Worker", octet.Read(append(make([]byte, 16), b...)), true, api.ErrLong)
	}
	for _, at := range []int{0, 1, 4, 9, 16} {
		refused(t, "a text that isn't there, or a row", octet.Read(append(make([]byte, at), 0xff, 1)), true, api.ErrShort)
	}
}

// TestForm: a number that isn't in its shortest form, or is beyond 64 bits, at each place.
func TestForm(t *testing.T) {
	for at := range 21 {
		for _, n := range [][]byte{{0x80, 0}, {0x81, 0x80, 0}, {255, 255, 255, 255, 255, 255, 255, 255, 255, 2}} {
			b := slices.Concat(make([]byte, at), n, make([]byte, 20-at))
			refused(t, "a number's form", octet.Read(b), true, api.ErrForm)
			if at < 11 {
				refused(t, "a number's form", octet.Read(b), false, api.ErrForm)
				continue
			}
			r := octet.Read(b)
			if s := spec.Get(r); !alike(s, api.Spec{}) || r.Err() != api.OK || r.Left() != len(b)-11 {
				t.Error("ahead of a wrong number:", at, s, r.Err(), r.Left())
			}
		}
	}
}

// TestAnyBytes: what isn't refused is what is written of it, in just as many bytes.
func TestAnyBytes(t *testing.T) {
	chance := rand.New(rand.NewSource(3))
	read := 0
	for range 100000 {
		b := make([]byte, chance.Intn(60))
		for i := range b {
			b[i] = byte(chance.Intn(256) >> chance.Intn(9))
		}
		if chance.Intn(2) == 0 {
			_, b = fullBytes()
			b[chance.Intn(len(b))] = byte(chance.Intn(256))
		}
		r := octet.Read(b)
		j := spec.GetJob(r)
		if r.Err() != api.OK {
			if !reflect.DeepEqual(j, api.Job{}) {
				t.Fatalf("%v: %#v beside %d", b, j, r.Err())
			}
			continue
		}
		read++
		if !bytes.Equal(putJob(j), b[:len(b)-r.Left()]) {
			t.Fatalf("%v: %#v", b, j)
		}
	}
	if read < 10000 {
		t.Error("too few are read:", read)
	}
}

// TestErrorAhead: with an error of the reader, whenever it came about, the zero one is told, and the error stays.
func TestErrorAhead(t *testing.T) {
	_, b := fullBytes()
	for _, job := range []bool{false, true} {
		refused(t, "nil", nil, job, api.ErrArg)
		refused(t, "nothing", octet.Read(nil), job, api.ErrShort)
		refused(t, "no reader of Read", &octet.Reader{}, job, api.ErrShort)
		r := octet.Read(append([]byte{2}, b...))
		r.Flag()
		refused(t, "behind ErrForm", r, job, api.ErrForm)
		refused(t, "once more", r, job, api.ErrForm)
		r = octet.Read(append([]byte{2}, b...))
		r.Text(1)
		refused(t, "behind ErrLong", r, job, api.ErrLong)
	}
}

func TestNilWriter(t *testing.T) {
	spec.Put(nil, fullJob().Spec)
	spec.PutJob(nil, fullJob())
	spec.Put(nil, api.Spec{})
}

// TestKept: what is handed in isn't changed or kept, and answers are new memory.
func TestKept(t *testing.T) {
	deps := []string{"d", "", "ef", "spare", "room"}
	j := fullJob()
	j.Spec.Deps = deps[:3]
	same := func(what string) {
		t.Helper()
		if !slices.Equal(deps, []string{"d", "", "ef", "spare", "room"}) || !slices.Equal(j.Spec.Deps, deps[:3]) {
			t.Error(what, deps, j.Spec.Deps)
		}
	}
	spec.Check(j.Spec)
	same("Check")
	falling := api.Spec{Name: "a", Tenant: "a", Attempts: 1, Lease: 1, Deps: []string{"b", "a", "a"}}
	checks(t, falling, api.ErrRange)
	if !slices.Equal(falling.Deps, []string{"b", "a", "a"}) {
		t.Error(falling.Deps)
	}
	w := &octet.Writer{}
	spec.Put(w, j.Spec)
	spec.PutJob(w, j)
	same("Put")
	wanted := slices.Concat(put(j.Spec), putJob(j))
	j.Spec.Deps[0] = "other"
	if !bytes.Equal(w.Bytes(), wanted) {
		t.Error(w.Bytes())
	}
	deps[0] = "d"

	b := slices.Clone(wanted)
	r := octet.Read(b)
	s := spec.Get(r)
	k := spec.GetJob(r)
	clear(b)
	if !alike(s, j.Spec) || !alikeJobs(k, j) {
		t.Error(s, k)
	}
	s.Deps[0] = "other"
	s.Deps = append(s.Deps, "more")
	if !alikeJobs(k, j) {
		t.Error(k)
	}
	k.Spec.Deps[0] = "other"
	same("Get")
}

func TestClone(t *testing.T) {
	chance := rand.New(rand.NewSource(2))
	for range 1000 {
		s := chanceSpec(chance)
		if c := spec.Clone(s); !alike(c, s) {
			t.Fatalf("%#v: %#v", s, c)
		}
	}
	for _, s := range []api.Spec{{}, {Deps: []string{}}, once(), often(), fullJob().Spec} {
		if c := spec.Clone(s); !alike(c, s) {
			t.Fatalf("%#v: %#v", s, c)
		}
	}
	deps := []string{"a", "b", "spare", "room"}
	s := once()
	s.Deps = deps[:2]
	c, d := spec.Clone(s), spec.Clone(s)
	deps[0] = "z"
	if !slices.Equal(c.Deps, []string{"a", "b"}) {
		t.Error("a clone of what was changed:", c.Deps)
	}
	c.Deps[1] = "y"
	c.Deps = append(c.Deps, "x")
	if !slices.Equal(deps, []string{"z", "b", "spare", "room"}) || !slices.Equal(d.Deps, []string{"a", "b"}) {
		t.Error("a clone was changed:", deps, d.Deps)
	}
	s.Deps = deps[:0]
	c = spec.Clone(s)
	c.Deps = append(c.Deps, "x")
	if deps[0] != "z" {
		t.Error("an empty clone was changed:", deps)
	}
}

// same holds Same of two specs against what is promised, whichever is first.
func same(t *testing.T, a, b api.Spec, want bool) {
	t.Helper()
	if spec.Same(a, b) != want || spec.Same(b, a) != want {
		t.Errorf("Same: %v, %v of %#v and %#v", spec.Same(a, b), spec.Same(b, a), a, b)
	}
	if !spec.Same(a, a) || !spec.Same(b, b) {
		t.Errorf("Same of one and itself: %#v, %#v", a, b)
	}
}

// TestSame: of specs that differ in one field alone.
func TestSame(t *testing.T) {
	for _, s := range []api.Spec{{}, once(), often(), fullJob().Spec} {
		same(t, s, spec.Clone(s), true)
		for i := range reflect.TypeOf(s).NumField() {
			changes := 0
			for _, other := range []string{"", "x", "load", "Load", "ops", "0 3 * * *", "日"} {
				for _, n := range numbers() {
					c := spec.Clone(s)
					switch v := reflect.ValueOf(&c).Elem().Field(i); v.Kind() {
					case reflect.String:
						v.SetString(other)
					case reflect.Slice:
						v.Set(reflect.ValueOf(append(slices.Clone(s.Deps), other)))
					default:
						v.SetInt(n)
					}
					if !alike(c, s) {
						changes++
					}
					same(t, s, c, alike(c, s))
				}
			}
			if changes == 0 {
				t.Error("no change of field", i)
			}
		}
	}
	lists := [][]string{nil, {}, {""}, {"", ""}, {"a"}, {"b"}, {"a", "b"}, {"b", "a"}, {"ab"}, {"a", ""}, {"", "a"}, {"a", "b", "c"}, {"a", "b", "d"}, {"a", "b", "c", "c"}}
	for _, a := range lists {
		for _, b := range lists {
			s, c := once(), once()
			s.Deps, c.Deps = a, b
			same(t, s, c, slices.Equal(a, b))
		}
	}
	same(t, api.Spec{Name: "a", Tenant: "b"}, api.Spec{Name: "b", Tenant: "a"}, false)
	same(t, api.Spec{Name: "ab"}, api.Spec{Name: "a", Tenant: "b"}, false)
	same(t, api.Spec{Base: 1}, api.Spec{Cap: 1}, false)
	same(t, api.Spec{Delay: 1, Lease: 2}, api.Spec{Delay: 2, Lease: 1}, false)
}

// TestBytesFast: long rows and texts are written and refused in a short while.
func TestBytesFast(t *testing.T) {
	begin := time.Now()
	j := fullJob()
	j.Spec.Deps, j.Worker = some(1<<18), strings.Repeat("x", 1<<24)
	for range 5 {
		refused(t, "much", octet.Read(putJob(j)), true, api.ErrLong)
		if !spec.Same(spec.Clone(j.Spec), j.Spec) {
			t.Error("Clone")
		}
	}
	if d := time.Since(begin); d > 20*time.Second {
		t.Error("it took", d)
	}
}
