package command_test

import (
	"bytes"
	"encoding/binary"
	"math"
	"math/rand"
	"reflect"
	"slices"
	"strings"
	"testing"
	"time"

	"compline/api"
	"compline/command"
)

// holds holds a request's bytes against the model, and what is read of them against the request.
func holds(t *testing.T, q api.Request) {
	t.Helper()
	want := requestBytes(q)
	b, e := command.Bytes(q)
	if len(want) > 900 {
		if b != nil || e != api.ErrLong {
			t.Fatalf("%d bytes of %+v: %d, %d", len(want), q, len(b), e)
		}
		return
	}
	if e != api.OK || !bytes.Equal(b, want) {
		t.Fatalf("%+v: %v, %d, not %v", q, b, e, want)
	}
	q.C = only(q.C)
	if x, e := command.Of(b); e != api.OK || !alike(x, q) {
		t.Fatalf("%+v: %+v, %d", q, x, e)
	}
}

// reads holds what is read of bytes against the model.
func reads(t *testing.T, b []byte) {
	t.Helper()
	want, fault := requestOf(b)
	q, e := command.Of(b)
	if e != fault || !reflect.DeepEqual(q, want) {
		t.Fatalf("%v: %+v, %d, not %+v, %d", b, q, e, want, fault)
	}
	if e != api.OK {
		return
	}
	if c, e := command.Bytes(q); e != api.OK || !bytes.Equal(c, b) {
		t.Fatalf("%v: %+v: %v, %d", b, q, c, e)
	}
}

// refused is that bytes are no request's.
func refused(t *testing.T, what string, b []byte, want api.Errno) {
	t.Helper()
	if q, e := command.Of(b); e != want || !reflect.DeepEqual(q, api.Request{}) {
		t.Errorf("%s, %d bytes: %+v, %d, not %d", what, len(b), q, e, want)
	}
}

// kinds are bytes of each kind's full command, behind the client 3 and the number 200.
func kinds() [][]byte {
	head := []byte{3, 200, 1}
	ofSpec := []byte{
		2, 'd', 'e', 1, 'f', // Name, Tenant
		2, 3, // Priority, Delay
		3, 1, 'g', 0, 2, 'h', 'i', // Deps
		6, 0xd8, 4, 9, 12, // Base, Cap, Attempts, Lease
		1, 'j', 14, // Cron, Catch
	}
	l := [][]byte{
		{0},
		append([]byte{1}, ofSpec...),
		{2, 1, 'c'},
		{3, 2, 'a', 'b', 0xac, 2},
		{4, 2, 'a', 'b', 0xac, 2, 9},
		{5, 2, 'a', 'b', 0xac, 2},
		{6, 2, 'a', 'b'},
		{7, 2, 'a', 'b'},
		{8, 2, 'a', 'b'},
		{9, 9},
	}
	for i := range l {
		l[i] = slices.Concat(head, l[i])
	}
	return l
}

// TestBytes: of each kind just its fields are written, in their order.
func TestBytes(t *testing.T) {
	if len(kinds()) != api.Kinds {
		t.Fatal(len(kinds()))
	}
	for kind, want := range kinds() {
		q := api.Request{Client: 3, Number: 200, C: full(kind)}
		b, e := command.Bytes(q)
		if e != api.OK || !bytes.Equal(b, want) {
			t.Errorf("%d: %v, %d, not %v", kind, b, e, want)
		}
		q.C = only(q.C)
		if x, e := command.Of(want); e != api.OK || !alike(x, q) {
			t.Errorf("%d: %+v, %d, not %+v", kind, x, e, q)
		}
		holds(t, api.Request{C: api.Command{Kind: kind}})
	}
	if b, e := command.Bytes(api.Request{}); e != api.OK || !bytes.Equal(b, []byte{0, 0, 0}) {
		t.Error(b, e)
	}
}

// noKinds are kinds that there aren't.
func noKinds() []int {
	return []int{-1, -2, -9, -10, 10, 11, 127, 128, 255, 256, 257, 256 + 9, 1<<32 + 1, 1<<32 + 9, -1 << 32, 1<<63 - 1, -1 << 63, -1<<63 + 4}
}

func TestNoKinds(t *testing.T) {
	for _, kind := range noKinds() {
		c := full(kind)
		for range 2 {
			if b, e := command.Bytes(api.Request{Client: 1, Number: 1, C: c}); b != nil || e != api.ErrArg {
				t.Errorf("%d: %v, %d", kind, b, e)
			}
			// It is named ahead of the bytes that would be too many.
			long := strings.Repeat("x", 2000)
			c = api.Command{Kind: kind, Name: long, Worker: long, Spec: api.Spec{Name: long}}
		}
	}
}

// TestFields: each field alone, with each value that it may have as bytes, in a command of each kind.
func TestFields(t *testing.T) {
	var set func(v reflect.Value, q *api.Request)
	set = func(v reflect.Value, q *api.Request) {
		old := reflect.ValueOf(v.Interface())
		switch v.Kind() {
		case reflect.String:
			for _, s := range texts() {
				v.SetString(s)
				holds(t, *q)
			}
		case reflect.Int, reflect.Int64:
			for _, n := range ends() {
				v.SetInt(n)
				holds(t, *q)
			}
		case reflect.Uint64:
			for _, n := range ends() {
				v.SetUint(uint64(n))
				holds(t, *q)
			}
		case reflect.Slice:
			for _, l := range [][]string{nil, {}, {""}, texts(), {"b", "a", "a"}, make([]string, 127), make([]string, 128), make([]string, 255)} {
				v.Set(reflect.ValueOf(l))
				holds(t, *q)
			}
		case reflect.Struct:
			for i := range v.NumField() {
				set(v.Field(i), q)
			}
		}
		v.Set(old)
	}
	for kind := range api.Kinds {
		for _, c := range []api.Command{{Kind: kind}, full(kind)} {
			q := api.Request{Client: 3, Number: 200, C: c}
			v := reflect.ValueOf(&q).Elem()
			set(v.FieldByName("Client"), &q)
			set(v.FieldByName("Number"), &q)
			v = v.FieldByName("C")
			for _, name := range []string{"Name", "Worker", "Token", "Value", "Spec"} {
				set(v.FieldByName(name), &q)
			}
		}
	}
}

func TestChance(t *testing.T) {
	r := rand.New(rand.NewSource(18))
	long := 0
	for range 30000 {
		q := api.Request{Client: uint64(chanceNumber(r)), Number: uint64(chanceNumber(r)), C: chanceCommand(r)}
		holds(t, q)
		if len(requestBytes(q)) > 900 {
			long++
		}
	}
	if long < 100 {
		t.Error("too few are too long:", long)
	}
}

// longSpec is a spec of texts that can be read, of just so many bytes.
func longSpec(size int) api.Spec {
	s := api.Spec{Name: strings.Repeat("a", 255), Tenant: strings.Repeat("b", 255), Cron: strings.Repeat("c", 255)}
	// A dep has a byte for its length, too, and as many as 127 have no more for it.
	left := size - len(written(nil, reflect.ValueOf(s)))
	for left > 0 {
		n := min(left, 128)
		s.Deps = append(s.Deps, strings.Repeat("d", n-1))
		left -= n
	}
	return s
}

// TestLong: up to 900 bytes are written and read, whatever has them, and no more.
func TestLong(t *testing.T) {
	for size := 800; size <= 1100; size++ {
		q := api.Request{Client: 1, Number: 2, C: api.Command{Kind: api.Submit, Spec: longSpec(size - 3)}}
		want := requestBytes(q)
		if len(want) != size {
			t.Fatal(size, len(want))
		}
		holds(t, q)
		if size <= 900 {
			reads(t, want)
		} else {
			refused(t, "too long a spec", want, api.ErrLong)
		}
		for _, kind := range []int{api.Lease, api.Renew, api.Complete, api.Fail, api.Cancel, api.Requeue, api.Forget} {
			c := api.Command{Kind: kind}
			less := len(requestBytes(api.Request{Client: 1, Number: 2, C: c})) + 1
			text := strings.Repeat("n", size-less)
			c.Name, c.Worker = text, text
			q := api.Request{Client: 1, Number: 2, C: c}
			b, e := command.Bytes(q)
			switch {
			case len(requestBytes(q)) != size:
				t.Fatal(size, kind)
			case size > 900 && (b != nil || e != api.ErrLong):
				t.Errorf("%d bytes of kind %d: %d, %d", size, kind, len(b), e)
			case size <= 900 && (e != api.OK || !bytes.Equal(b, requestBytes(q))):
				t.Errorf("%d bytes of kind %d: %d, %d", size, kind, len(b), e)
			}
			refused(t, "too long a text", requestBytes(q), api.ErrLong)
		}
	}
}

// TestLongAhead: that bytes are too many is told ahead of whatever else is wrong with them.
func TestLongAhead(t *testing.T) {
	ahead := func(what string, b []byte, want api.Errno) {
		t.Helper()
		for n := len(b); n <= 900; n++ {
			refused(t, what, append(slices.Clone(b), bytes.Repeat(b[len(b)-1:], n-len(b))...), want)
		}
		for _, n := range []int{901, 902, 1000, 1024, 5000} {
			refused(t, what, append(slices.Clone(b), bytes.Repeat(b[len(b)-1:], n-len(b))...), api.ErrLong)
		}
	}
	ahead("a client that is no number", bytes.Repeat([]byte{0xff}, 10), api.ErrForm)
	ahead("a kind that is no number", []byte{0, 0, 0x80, 0}, api.ErrForm)
	ahead("a command with something behind", []byte{0, 0, 0, 0}, api.ErrLong)
	ahead("a Tick that is no number", append([]byte{0, 0, 9}, bytes.Repeat([]byte{0xff}, 10)...), api.ErrForm)
}

// TestTexts: of 255 bytes a text is read, of more it isn't, whichever it is.
func TestTexts(t *testing.T) {
	for n := 250; n <= 300; n++ {
		text := strings.Repeat("x", n)
		for _, c := range []api.Command{
			{Kind: api.Lease, Worker: text},
			{Kind: api.Renew, Name: text}, {Kind: api.Complete, Name: text}, {Kind: api.Fail, Name: text},
			{Kind: api.Cancel, Name: text}, {Kind: api.Requeue, Name: text}, {Kind: api.Forget, Name: text},
			{Kind: api.Submit, Spec: api.Spec{Name: text}}, {Kind: api.Submit, Spec: api.Spec{Tenant: text}},
			{Kind: api.Submit, Spec: api.Spec{Cron: text}}, {Kind: api.Submit, Spec: api.Spec{Deps: []string{"a", text}}},
			{Kind: api.Submit, Spec: api.Spec{Deps: make([]string, n)}},
		} {
			q := api.Request{Client: 1, Number: 1, C: c}
			if n <= 255 {
				holds(t, q)
				continue
			}
			// It is written all the same.
			if b, e := command.Bytes(q); e != api.OK || !bytes.Equal(b, requestBytes(q)) {
				t.Errorf("%d: %v, %d", n, b, e)
			}
			refused(t, "a long text", requestBytes(q), api.ErrLong)
		}
	}
	// How long it says that it is, is asked ahead of what is there.
	for _, kind := range []byte{1, 2, 3, 4, 5, 6, 7, 8} {
		for _, n := range []uint64{256, 1 << 31, 1 << 32, math.MaxInt64, 1 << 63, math.MaxUint64} {
			refused(t, "a great text", binary.AppendUvarint([]byte{0, 0, kind}, n), api.ErrLong)
		}
		refused(t, "a text that ends", []byte{0, 0, kind, 255, 1}, api.ErrShort)
	}
}

// TestEnd: what lacks bytes, or has one more, is no request's.
func TestEnd(t *testing.T) {
	refused(t, "nothing", nil, api.ErrShort)
	refused(t, "nothing", []byte{}, api.ErrShort)
	for _, b := range kinds() {
		for n := range b {
			refused(t, "a beginning", b[:n], api.ErrShort)
		}
		reads(t, b)
		for more := range 256 {
			refused(t, "one byte more", append(slices.Clone(b), byte(more)), api.ErrLong)
		}
		refused(t, "twice", slices.Concat(b, b), api.ErrLong)
	}
}

// TestForm: a number that isn't in its shortest form, or is beyond 64 bits, at each place.
func TestForm(t *testing.T) {
	for kind := range api.Kinds {
		head := []byte{0, 0, byte(kind)}
		b, e := command.Bytes(api.Request{C: api.Command{Kind: kind}})
		if e != api.OK || !bytes.HasPrefix(b, head) {
			t.Fatal(kind, b, e)
		}
		for at := range b {
			for _, n := range [][]byte{{0x80, 0}, {0x81, 0x80, 0}, {255, 255, 255, 255, 255, 255, 255, 255, 255, 2}} {
				refused(t, "a number's form", slices.Concat(b[:at], n, b[at+1:]), api.ErrForm)
			}
		}
	}
}

// TestOfNoKinds: a number that is no kind's has no fields, and is told behind chapter 1's errors.
func TestOfNoKinds(t *testing.T) {
	refused(t, "the first one", []byte{0, 0, 10}, api.ErrForm)
	for _, kind := range noKinds() {
		b := numbers(3, 200, uint64(kind))
		refused(t, "no kind", b, api.ErrForm)
		for n := range b {
			refused(t, "no kind's beginning", b[:n], api.ErrShort)
		}
		for _, more := range []string{"\x00", "\x01a", "\x01a\x02\x09", "\x80", strings.Repeat("\x00", 11)} {
			refused(t, "no kind with something behind", append(slices.Clone(b), more...), api.ErrLong)
		}
	}
	for low := range uint64(api.Kinds) {
		for shift := 8; shift < 64; shift++ {
			refused(t, "a kind in the low bits", numbers(0, 0, 1<<shift|low), api.ErrForm)
		}
	}
}

// TestShortBytes: all of up to three bytes, and of some bytes up to six, against the model.
func TestShortBytes(t *testing.T) {
	var all func(b []byte, left int, signs []byte)
	all = func(b []byte, left int, signs []byte) {
		reads(t, b)
		if left == 0 {
			return
		}
		for _, sign := range signs {
			all(append(b, sign), left-1, signs)
		}
	}
	var every []byte
	for i := range 256 {
		every = append(every, byte(i))
	}
	all(make([]byte, 0, 8), 2, every)
	all([]byte{0, 0}, 2, every)
	all(make([]byte, 0, 8), 6, []byte{0, 1, 2, 4, 9, 10, 128})
}

// TestAnyBytes: requests' bytes with some of them others, and bytes by chance, against the model.
func TestAnyBytes(t *testing.T) {
	r := rand.New(rand.NewSource(3))
	count := map[api.Errno]int{}
	for range 200000 {
		b := requestBytes(api.Request{Client: uint64(r.Intn(300)), Number: uint64(r.Intn(300)), C: chanceCommand(r)})
		switch r.Intn(5) {
		case 0:
			b[r.Intn(len(b))] = byte(r.Intn(256))
		case 1:
			b = b[:r.Intn(len(b))]
		case 2:
			b = append(b, byte(r.Intn(256)))
		case 3:
			b = make([]byte, r.Intn(20))
			for i := range b {
				b[i] = byte(r.Intn(256) >> r.Intn(9))
			}
		}
		reads(t, b)
		_, e := requestOf(b)
		count[e]++
	}
	for _, e := range []api.Errno{api.OK, api.ErrForm, api.ErrShort, api.ErrLong} {
		if count[e] < 1000 {
			t.Error("too few of", int(e), count[e])
		}
	}
}

// TestMemory: what is handed in isn't changed or kept, its spare room neither, and answers are new memory.
func TestMemory(t *testing.T) {
	deps := []string{"g", "", "hi", "spare", "room"}
	q := api.Request{Client: 3, Number: 200, C: full(api.Submit)}
	q.C.Spec.Deps = deps[:3]
	b, _ := command.Bytes(q)
	c, _ := command.Bytes(q)
	wanted := slices.Clone(b)
	if !slices.Equal(deps, []string{"g", "", "hi", "spare", "room"}) {
		t.Error("what was handed in was changed:", deps)
	}
	clear(b)
	_ = append(b, 1, 2, 3)
	if !bytes.Equal(c, wanted) {
		t.Error("two answers share:", c)
	}
	room := append(slices.Clone(wanted), 7, 7, 7)
	x, _ := command.Of(room[:len(wanted)])
	y, _ := command.Of(room[:len(wanted)])
	if !bytes.Equal(room, append(slices.Clone(wanted), 7, 7, 7)) {
		t.Error("what was handed in was changed:", room)
	}
	clear(room)
	x.C.Spec.Deps[0] = "other"
	_ = append(x.C.Spec.Deps, "more")
	if !alikeCommands(y.C, only(q.C)) {
		t.Error("two answers share, or one has what was handed in:", y)
	}
}

// TestFast: what is far too long is told in a short while.
func TestFast(t *testing.T) {
	begin := time.Now()
	long := strings.Repeat("a", 1<<26)
	for kind := range api.Kinds {
		c := api.Command{Kind: kind, Name: long, Worker: long, Spec: api.Spec{Name: long, Deps: make([]string, 1<<20)}}
		want := api.ErrLong
		if kind == api.Nothing || kind == api.Tick {
			want = api.OK
		}
		if _, e := command.Bytes(api.Request{C: c}); e != want {
			t.Error(kind, e)
		}
	}
	for range 1000 {
		refused(t, "a great many bytes", []byte(long[:1<<16]), api.ErrLong)
	}
	if d := time.Since(begin); d > 20*time.Second {
		t.Error("it took", d)
	}
}
