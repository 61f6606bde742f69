package image_test

import (
	"bytes"
	"encoding/binary"
	"reflect"
	"slices"
	"testing"

	"compline/api"
	"compline/image"
	"compline/sched"
)

const last = api.MaxTick

// written is a value's bytes by the words of chapters 1 and 14, behind others.
func written(b []byte, v reflect.Value) []byte {
	switch v.Kind() {
	case reflect.String:
		return append(binary.AppendUvarint(b, uint64(v.Len())), v.String()...)
	case reflect.Int, reflect.Int64:
		return binary.AppendVarint(b, v.Int())
	case reflect.Uint64:
		return binary.AppendUvarint(b, v.Uint())
	case reflect.Slice:
		b = binary.AppendUvarint(b, uint64(v.Len()))
		for i := range v.Len() {
			b = written(b, v.Index(i))
		}
		return b
	case reflect.Struct:
		for i := range v.NumField() {
			b = written(b, v.Field(i))
		}
		return b
	}
	panic("a field of a kind without bytes")
}

// head is an image's bytes ahead of its jobs, of which there are so many.
func head(now int64, each, order, jobs uint64) []byte {
	b := binary.AppendVarint(nil, now)
	for _, x := range []uint64{each, order, jobs} {
		b = binary.AppendUvarint(b, x)
	}
	return b
}

// imageBytes is what an image of these numbers and jobs would be, whether there may be such a scheduler or not.
func imageBytes(now int64, each, order uint64, jobs ...api.Job) []byte {
	b := head(now, each, order, uint64(len(jobs)))
	for _, j := range jobs {
		b = written(b, reflect.ValueOf(j))
	}
	return b
}

// imageOf is the model of Of.
func imageOf(s *sched.Sched) []byte {
	return imageBytes(s.Now(), uint64(s.Each()), s.Order(), slices.Collect(s.Jobs())...)
}

// source is bytes that are read by the words of chapter 1, and the first error.
type source struct {
	b []byte
	e api.Errno
}

func (s *source) fail(e api.Errno) {
	if s.e == api.OK {
		s.e = e
	}
}

func (s *source) num() uint64 {
	if s.e != api.OK {
		return 0
	}
	for i := 0; i < len(s.b); i++ {
		if i == 9 && s.b[i] > 1 || i > 0 && s.b[i] == 0 {
			s.fail(api.ErrForm)
			return 0
		}
		if s.b[i] < 128 {
			x, n := binary.Uvarint(s.b)
			s.b = s.b[n:]
			return x
		}
	}
	s.fail(api.ErrShort)
	return 0
}

func (s *source) signed() int64 {
	x := s.num()
	if x%2 == 0 {
		return int64(x / 2)
	}
	return -int64(x/2) - 1
}

func (s *source) count(most uint64) int {
	n := s.num()
	if n > most {
		s.fail(api.ErrLong)
	}
	if s.e != api.OK {
		return 0
	}
	return int(n)
}

func (s *source) text() string {
	n := s.count(255)
	if n > len(s.b) {
		s.fail(api.ErrShort)
	}
	if s.e != api.OK {
		return ""
	}
	t := string(s.b[:n])
	s.b = s.b[n:]
	return t
}

func (s *source) end() api.Errno {
	if len(s.b) > 0 {
		s.fail(api.ErrLong)
	}
	return s.e
}

func (s *source) job() api.Job {
	x := api.Spec{Name: s.text(), Tenant: s.text(), Priority: int(s.signed()), Delay: s.signed()}
	for range s.count(255) {
		x.Deps = append(x.Deps, s.text())
	}
	x.Base, x.Cap, x.Attempts, x.Lease = s.signed(), s.signed(), int(s.signed()), s.signed()
	x.Cron, x.Catch = s.text(), int(s.signed())
	return api.Job{
		Spec: x, State: int(s.signed()), Due: s.signed(), Token: s.num(), Failed: int(s.signed()), Result: s.signed(),
		Worker: s.text(), Order: s.num(), Created: s.signed(), Runs: int(s.signed()), Missed: int(s.signed()),
	}
}

// errorOf is the error with which bytes are restored: those of chapter 1, then those of chapter 17, then that of names that don't rise.
func errorOf(b []byte) api.Errno {
	s := &source{b: b}
	now, each, order := s.signed(), s.num(), s.num()
	var jobs []api.Job
	for range s.count(128) {
		if s.e == api.OK {
			jobs = append(jobs, s.job())
		}
	}
	if e := s.end(); e != api.OK {
		return e
	}
	if now < 0 || now > last || each > 128 {
		return api.ErrArg
	}
	if _, e := sched.Restore(now, int(each), order, jobs); e != api.OK {
		return e
	}
	for i := 1; i < len(jobs); i++ {
		if jobs[i-1].Spec.Name >= jobs[i].Spec.Name {
			return api.ErrForm
		}
	}
	return api.OK
}

// alike is whether two jobs are the same, nil and empty lists being the same.
func alike(a, b api.Job) bool {
	for _, j := range []*api.Job{&a, &b} {
		if len(j.Spec.Deps) == 0 {
			j.Spec.Deps = nil
		}
	}
	return reflect.DeepEqual(a, b)
}

// same is that two schedulers tell the same.
func same(t *testing.T, what string, a, b *sched.Sched) {
	t.Helper()
	if a.Now() != b.Now() || a.Each() != b.Each() || a.Order() != b.Order() || a.Len() != b.Len() {
		t.Fatalf("%s: at %d, each %d, order %d, %d jobs, not %d, %d, %d, %d", what, a.Now(), a.Each(), a.Order(), a.Len(), b.Now(), b.Each(), b.Order(), b.Len())
	}
	if l, want := slices.Collect(a.Jobs()), slices.Collect(b.Jobs()); !slices.EqualFunc(l, want, alike) {
		t.Fatalf("%s: %+v, not %+v", what, l, want)
	}
}

// again is a scheduler that is restored of another one's image, which is held against the model.
func again(t *testing.T, s *sched.Sched) *sched.Sched {
	t.Helper()
	b := image.Of(s)
	if want := imageOf(s); !bytes.Equal(b, want) {
		t.Fatalf("%v, not %v", b, want)
	}
	x, e := image.Restore(b)
	if x == nil || e != api.OK {
		t.Fatalf("%v: %v, %d", b, x, e)
	}
	same(t, "restored", x, s)
	if c := image.Of(x); !bytes.Equal(c, b) {
		t.Fatalf("restored: %v, not %v", c, b)
	}
	if m := image.Mark(x); m != image.Mark(s) {
		t.Fatalf("restored: mark %d, not %d", m, image.Mark(s))
	}
	return x
}

// reads holds what bytes are restored to against the model.
func reads(t *testing.T, b []byte) api.Errno {
	t.Helper()
	want := errorOf(b)
	given := slices.Clone(b)
	s, e := image.Restore(b)
	if e != want || (s != nil) != (e == api.OK) {
		t.Fatalf("%v: %v, %d, not %d", b, s, e, want)
	}
	if !bytes.Equal(b, given) {
		t.Fatalf("%v was changed: %v", given, b)
	}
	if s != nil && !bytes.Equal(image.Of(s), b) {
		t.Fatalf("%v: %v", b, image.Of(s))
	}
	return e
}

// refused is that bytes are no image, and why.
func refused(t *testing.T, what string, b []byte, want api.Errno) {
	t.Helper()
	if s, e := image.Restore(b); s != nil || e != want {
		t.Errorf("%s: %v: %v, %d, not %d", what, b, s, e, want)
	}
}

// fresh is a scheduler without jobs.
func fresh(t *testing.T, now int64, each int) *sched.Sched {
	t.Helper()
	s, e := sched.New(now, each)
	if e != api.OK {
		t.Fatal(now, each, e)
	}
	return s
}

// given is a scheduler with jobs, that are such as may be.
func given(t *testing.T, now int64, each int, order uint64, jobs ...api.Job) *sched.Sched {
	t.Helper()
	s, e := sched.Restore(now, each, order, jobs)
	if e != api.OK {
		t.Fatalf("%d, %d, %d, %+v: %d", now, each, order, jobs, e)
	}
	return s
}

// job is a spec that may be.
func job(name string, on ...string) api.Spec {
	return api.Spec{Name: name, Tenant: "t", Deps: on, Base: 2, Cap: 9, Attempts: 3, Lease: 4}
}

// template is a spec with a Cron.
func template(name, cron string, catch int) api.Spec {
	s := job(name)
	s.Cron, s.Catch = cron, catch
	return s
}

// full is jobs each of whose fields has a value of its own, that may be beside one another at tick 70, each 9, order 300.
func full() []api.Job {
	return []api.Job{
		{
			Spec:  api.Spec{Name: "a", Tenant: "t", Priority: 1, Delay: 0, Base: 2, Cap: 64, Attempts: 3, Lease: 4, Cron: "5 * * * *", Catch: 6},
			State: api.Template, Created: 7, Runs: 8, Missed: 9,
		},
		{
			Spec:  api.Spec{Name: "bc", Tenant: "u.1", Priority: 3, Delay: 1, Base: 0, Cap: 5, Attempts: 16, Lease: 1 << 20},
			State: api.Leased, Due: 1 << 40, Token: 128, Failed: 11, Result: -12, Worker: "w-1", Order: 300, Created: 14, Runs: 15, Missed: 16,
		},
		{
			Spec:  api.Spec{Name: "d", Tenant: "t", Deps: []string{"a", "bc"}, Attempts: 1, Lease: 1},
			State: api.Done, Result: 64, Token: 1,
		},
	}
}

// fullBytes is the image of full.
func fullBytes() []byte {
	return slices.Concat(
		[]byte{0x8c, 1, 9, 0xac, 2, 3}, // the tick, each, the order, three jobs
		[]byte{1, 'a', 1, 't', 2, 0, 0, 4, 0x80, 1, 6, 8}, []byte("\x095 * * * *\x0c"),
		[]byte{14, 0, 0, 0, 0, 0, 0, 14, 16, 18},
		[]byte{2, 'b', 'c', 3, 'u', '.', '1', 6, 2, 0, 0, 10, 32, 0x80, 0x80, 0x80, 1, 0, 0},
		[]byte{6, 0x80, 0x80, 0x80, 0x80, 0x80, 0x40, 0x80, 1, 22, 23, 3, 'w', '-', '1', 0xac, 2, 28, 30, 32},
		[]byte{1, 'd', 1, 't', 0, 0, 2, 1, 'a', 2, 'b', 'c', 0, 0, 2, 2, 0, 0},
		[]byte{8, 0, 1, 0, 0x80, 1, 0, 0, 0, 0, 0},
	)
}
