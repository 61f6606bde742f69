package session_test

import (
	"bytes"
	"encoding/binary"
	"math"
	"math/rand"
	"slices"
	"strings"
	"testing"
	"time"

	"compline/api"
	"compline/session"
)

// P20.2: Bytes, Of

// three is a table whose bytes are threeBytes.
func three(t *testing.T) (*session.Table, model) {
	t.Helper()
	s, m := session.New(), model{}
	keep(t, s, &m, 300, 5, api.Answer{Error: 9, Name: "ab", Token: 128, Value: -5})
	keep(t, s, &m, 7, 1, api.Answer{})
	keep(t, s, &m, 8, math.MaxUint64, api.Answer{Value: 64})
	keep(t, s, &m, 7, 127, api.Answer{Token: 2})
	return s, m
}

func threeBytes() []byte {
	return slices.Concat(
		[]byte{3, 7, 127, 4, 0, 0, 2, 0},
		[]byte{8, 255, 255, 255, 255, 255, 255, 255, 255, 255, 1, 5, 0, 0, 0, 0x80, 1},
		[]byte{0xac, 2, 5, 7, 9, 2, 'a', 'b', 0x80, 1, 9},
	)
}

func TestBytes(t *testing.T) {
	s, m := three(t)
	if b := s.Bytes(); !bytes.Equal(b, threeBytes()) {
		t.Errorf("%v, not %v", b, threeBytes())
	}
	holds(t, "three", s, m)
	x, e := session.Of(threeBytes())
	if e != api.OK {
		t.Fatal(e)
	}
	holds(t, "of their bytes", x, m)
	// It goes on as the one whose bytes these were.
	for _, number := range []uint64{127, 128} {
		keep(t, x, &m, 7, number, api.Answer{Value: 3})
	}
	keep(t, x, &m, 9, 1, api.Answer{})
	holds(t, "goes on", x, m)
	if x, e := session.Of([]byte{0}); e != api.OK || x.Len() != 0 {
		t.Error(x, e)
	} else {
		keep(t, x, &model{}, 1, 1, api.Answer{})
	}
}

// TestRising: clients rise as numbers, whichever way they came.
func TestRising(t *testing.T) {
	clients := []uint64{1, 2, 3, 127, 128, 129, 256, 300, 1 << 14, 1 << 32, 1<<32 + 1, 1 << 63, 1<<63 + 1, math.MaxUint64}
	for seed := range 200 {
		r := rand.New(rand.NewSource(int64(seed)))
		r.Shuffle(len(clients), func(i, j int) { clients[i], clients[j] = clients[j], clients[i] })
		s, m := filled(t, clients[:r.Intn(len(clients)+1)]...)
		holds(t, "rising", s, m)
		again(t, s, m)
	}
}

// TestEnd: what lacks bytes, or has one more, is no table.
func TestEnd(t *testing.T) {
	wrong(t, "nothing", nil, api.ErrShort)
	wrong(t, "nothing", []byte{}, api.ErrShort)
	full, _ := filled(t, upTo(16)...)
	falling := rows(kept{client: 2, number: 1}, kept{client: 1, number: 1}, kept{client: 1})
	for _, b := range [][]byte{{0}, threeBytes(), full.Bytes(), falling} {
		for n := range b {
			wrong(t, "a beginning", b[:n], api.ErrShort)
		}
		for more := range 256 {
			wrong(t, "one byte more", append(slices.Clone(b), byte(more)), api.ErrLong)
		}
		wrong(t, "twice", slices.Concat(b, b), api.ErrLong)
	}
}

// TestForm: a number that isn't in its shortest form, or is beyond 64 bits, at each place.
func TestForm(t *testing.T) {
	b := []byte{2, 7, 5, 4, 0, 0, 2, 0, 9, 1, 4, 0, 0, 0, 0}
	for _, at := range []int{0, 1, 2, 3, 8, 9, 10} {
		for _, n := range [][]byte{{0x80, 0}, {0x81, 0x80, 0}, {255, 255, 255, 255, 255, 255, 255, 255, 255, 2}} {
			wrong(t, "a number's form", slices.Concat(b[:at], n, b[at+1:]), api.ErrForm)
			wrong(t, "a number's form, and bytes more", slices.Concat(b[:at], n, b[at+1:], []byte{0}), api.ErrForm)
		}
	}
}

// TestMany: up to 16 clients may be, and how many there are said to be is told ahead of what they are.
func TestMany(t *testing.T) {
	for n := range 40 {
		var l []kept
		for i := range n {
			l = append(l, kept{client: uint64(i) + 1, number: 1})
		}
		b := rows(l...)
		if n <= 16 {
			if reads(t, b) != api.OK {
				t.Error(n)
			}
			continue
		}
		wrong(t, "too many", b, api.ErrLong)
		wrong(t, "too many, that may not be", rows(make([]kept, n)...), api.ErrLong)
	}
	for _, n := range []uint64{17, 18, 255, 256, 1<<32 + 1, 1 << 63, math.MaxUint64} {
		wrong(t, "too many, that aren't there", binary.AppendUvarint(nil, n), api.ErrLong)
	}
	for n := range 16 {
		wrong(t, "clients that aren't there", []byte{byte(n) + 1}, api.ErrShort)
	}
}

// TestLong: an answer of up to 300 bytes is read, though it is none by chapter 18 if it has nearly as many; one of more isn't.
func TestLong(t *testing.T) {
	begins := [][]byte{
		{0x80, 0},                        // a number's form: ErrForm
		bytes.Repeat([]byte{255}, 10),    // beyond 64 bits: ErrForm
		{0, 255, 1},                      // a name of 255 bytes, and bytes more: ErrLong
		binary.AppendUvarint(nil, 1<<31), // an error that is too great, and bytes more: ErrLong
	}
	for n := 10; n < 600; n++ {
		for i, begin := range begins {
			b := row([]byte{1}, 1, 1, append(slices.Clone(begin), make([]byte, n-len(begin))...))
			switch {
			case n > 300:
				wrong(t, "a long answer", b, api.ErrLong)
				wrong(t, "a long answer, that ends", b[:6], api.ErrLong)
			case n > 260 && i < 2:
				wrong(t, "no answer", b, api.ErrForm)
			case n > 260:
				wrong(t, "an answer, and bytes more", b, api.ErrLong)
			default:
				reads(t, b)
			}
			if n < 300 {
				wrong(t, "an answer that ends", b[:6], api.ErrShort)
			}
		}
	}
	longest := api.Answer{Error: math.MaxInt32, Name: strings.Repeat("n", 255), Token: math.MaxUint64, Value: math.MinInt64}
	if reads(t, rows(kept{math.MaxUint64, math.MaxUint64, longest})) != api.OK {
		t.Error("the longest answer")
	}
	longest.Name += "n"
	wrong(t, "a long name", rows(kept{1, 1, longest}), api.ErrLong)
	for _, n := range []uint64{301, 1 << 31, 1 << 32, 1<<63 - 1, 1 << 63, math.MaxUint64} {
		wrong(t, "a great answer", binary.AppendUvarint([]byte{1, 1, 1}, n), api.ErrLong)
	}
}

// TestAnswerErrors: chapter 18's errors, of each client's answer.
func TestAnswerErrors(t *testing.T) {
	right := answerBytes(api.Answer{Error: 9, Name: "ab", Token: 300, Value: -5})
	bad := []struct {
		text []byte
		want api.Errno
	}{
		{nil, api.ErrShort},
		{right[:len(right)-1], api.ErrShort},
		{append(slices.Clone(right), 0), api.ErrLong},
		{[]byte{0, 0x80, 2, 0, 0}, api.ErrLong},
		{[]byte{0x80, 0, 0, 0, 0}, api.ErrForm},
		{answerBytes(api.Answer{Error: -1}), api.ErrForm},
		{answerBytes(api.Answer{Error: 1 << 31}), api.ErrForm},
	}
	for _, c := range bad {
		for at := range 3 {
			texts := [][]byte{right, right, right}
			texts[at] = c.text
			for _, clients := range [][3]uint64{{1, 2, 3}, {3, 2, 1}, {1, 1, 1}, {0, 0, 0}} {
				b := []byte{3}
				for i, client := range clients {
					b = row(b, client, uint64(i), texts[i])
				}
				// Clients that may not be come behind, chapter 1's errors of the table ahead.
				wrong(t, "a wrong answer", b, c.want)
				wrong(t, "one byte more", append(slices.Clone(b), 0), api.ErrLong)
				wrong(t, "one byte less", b[:len(b)-1], api.ErrShort)
			}
		}
		// Of two the first one.
		for _, d := range bad {
			wrong(t, "two wrong answers", row(row([]byte{2}, 1, 1, c.text), 2, 1, d.text), c.want)
		}
		wrong(t, "a client's form behind", slices.Concat(row([]byte{2}, 1, 1, c.text), []byte{0x80, 0}), api.ErrForm)
	}
}

// TestClients: those that fall, or are there twice, or are 0, or have no number.
func TestClients(t *testing.T) {
	var l []kept
	for i, client := range ends()[:16] {
		l = append(l, kept{client, ends()[17-i], api.Answer{Value: int64(i)}})
	}
	if reads(t, rows(l...)) != api.OK {
		t.Fatal("rising")
	}
	for i := range l {
		for k := range i {
			other := slices.Clone(l)
			other[i], other[k] = other[k], other[i]
			wrong(t, "falling", rows(other...), api.ErrForm)
			other = slices.Clone(l)
			other[i].client = other[k].client
			wrong(t, "two alike", rows(other...), api.ErrForm)
		}
		other := slices.Clone(l)
		other[i].number = 0
		wrong(t, "no number", rows(other...), api.ErrForm)
		other = slices.Clone(l)
		other[i].client = 0
		wrong(t, "nobody", rows(other...), api.ErrForm)
		wrong(t, "one alone without a number", rows(kept{client: l[i].client}), api.ErrForm)
		wrong(t, "one alone that is nobody", rows(kept{number: l[i].client}), api.ErrForm)
	}
	wrong(t, "all 0", rows(kept{}), api.ErrForm)
	wrong(t, "nobody ahead", rows(kept{}, kept{client: 1, number: 1}), api.ErrForm)
	// Numbers needn't rise.
	if reads(t, rows(kept{client: 1, number: 9}, kept{client: 2, number: 9}, kept{client: 3, number: 1})) != api.OK {
		t.Error("numbers")
	}
}

// TestShortBytes: all of up to three bytes, and of some signs up to seven, against the model.
func TestShortBytes(t *testing.T) {
	var all func(b []byte, left int, signs []byte)
	all = func(b []byte, left int, signs []byte) {
		reads(t, b)
		if left == 0 {
			return
		}
		for _, sign := range signs {
			all(append(b, sign), left-1, signs)
		}
	}
	var every []byte
	for i := range 256 {
		every = append(every, byte(i))
	}
	all(make([]byte, 0, 16), 2, every)
	all([]byte{1, 1, 1, 4, 0, 0}, 2, every)
	all(make([]byte, 0, 16), 7, []byte{0, 1, 2, 4, 128, 129})
	all([]byte{2, 1, 1, 4, 0, 0, 0, 0}, 7, []byte{0, 1, 2, 4, 128})
}

// chanceRows is clients by chance, most of which may be a table's.
func chanceRows(r *rand.Rand) []kept {
	var l []kept
	client := uint64(0)
	for range r.Intn(17) {
		client += 1 + r.Uint64()>>(5+r.Intn(59))
		a := api.Answer{Error: api.Errno(r.Intn(22)), Name: strings.Repeat("n", r.Intn(1<<r.Intn(9))), Token: r.Uint64() >> r.Intn(64), Value: r.Int63() - r.Int63()}
		l = append(l, kept{client, 1 + r.Uint64()>>(1+r.Intn(63)), a})
	}
	if len(l) > 0 && r.Intn(4) == 0 {
		k := &l[r.Intn(len(l))]
		switch r.Intn(5) {
		case 0:
			k.client = 0
		case 1:
			k.number = 0
		case 2:
			k.client = l[r.Intn(len(l))].client
		case 3:
			k.a.Error = -k.a.Error
		case 4:
			k.a.Name = strings.Repeat("n", 240+r.Intn(80))
		}
	}
	return l
}

// TestAnyBytes: tables with some of their bytes others, and bytes by chance, against the model.
func TestAnyBytes(t *testing.T) {
	r := rand.New(rand.NewSource(20))
	count := map[api.Errno]int{}
	for range 100000 {
		b := rows(chanceRows(r)...)
		switch r.Intn(5) {
		case 0:
			b[r.Intn(len(b))] = byte(r.Intn(256))
		case 1:
			b = b[:r.Intn(len(b))]
		case 2:
			b = append(b, byte(r.Intn(256)))
		}
		if r.Intn(8) == 0 {
			b = make([]byte, r.Intn(30))
			for i := range b {
				b[i] = byte(r.Intn(256) >> r.Intn(9))
			}
		}
		count[reads(t, b)]++
	}
	for _, e := range []api.Errno{api.OK, api.ErrForm, api.ErrShort, api.ErrLong} {
		if count[e] < 1000 {
			t.Error("too few of", int(e), count[e])
		}
	}
}

// P20.3

// TestWritten: what is written is read, whatever was kept.
func TestWritten(t *testing.T) {
	var l []kept
	for i, a := range answers() {
		l = append(l, kept{uint64(i)<<40 + 1, ends()[i%len(ends())], a})
	}
	for n := range l {
		s, m := session.New(), model{}
		for i := range 16 {
			k := l[(n+i*7)%len(l)]
			keep(t, s, &m, k.client, k.number, k.a)
			again(t, s, m)
		}
	}
}

// TestMemory: what is handed in isn't changed or kept, its spare room neither; answers are new memory.
func TestMemory(t *testing.T) {
	s, m := three(t)
	b, c := s.Bytes(), s.Bytes()
	clear(b)
	_ = append(b[:2], 7, 7, 7)
	if !bytes.Equal(c, threeBytes()) {
		t.Error("two answers share:", c)
	}
	holds(t, "what was told is changed", s, m)
	room := append(threeBytes(), 7, 7, 7)
	x, e := session.Of(room[:len(c)])
	y, _ := session.Of(room[:len(c)])
	if e != api.OK || !bytes.Equal(room, append(threeBytes(), 7, 7, 7)) {
		t.Error("what was handed in was changed:", e, room)
	}
	clear(room)
	holds(t, "bytes that were changed", x, m)
	keep(t, x, &model{}, 1, 1, api.Answer{})
	holds(t, "another one went on", y, m)
	keep(t, s, &m, 7, 300, api.Answer{})
	if !bytes.Equal(c, threeBytes()) {
		t.Error("bytes are the table's own:", c)
	}
}

// TestFastOf: what is far too long is told in a short while.
func TestFastOf(t *testing.T) {
	begin := time.Now()
	long := make([]byte, 1<<26)
	wrong := func(begin []byte, want api.Errno) {
		t.Helper()
		copy(long, begin)
		if s, e := session.Of(long); s != nil || e != want {
			t.Error(begin, e)
		}
	}
	wrong([]byte{0}, api.ErrLong)
	wrong([]byte{16}, api.ErrLong)
	wrong(binary.AppendUvarint(nil, math.MaxUint64), api.ErrLong)
	wrong(binary.AppendUvarint([]byte{1, 1, 1}, 1<<26), api.ErrLong)
	full, m := filled(t, upTo(16)...)
	for range 20000 {
		full, _ = session.Of(full.Bytes())
	}
	holds(t, "read again and again", full, m)
	if d := time.Since(begin); d > 20*time.Second {
		t.Error("it took", d)
	}
}
