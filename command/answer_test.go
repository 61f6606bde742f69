package command_test

import (
	"bytes"
	"math"
	"math/rand"
	"slices"
	"strings"
	"testing"

	"compline/api"
	"compline/command"
)

// answers holds an answer's bytes against the model, and what is read of them against the answer.
func answers(t *testing.T, a api.Answer) {
	t.Helper()
	b := command.Answer(a)
	if !bytes.Equal(b, answerBytes(a)) {
		t.Fatalf("%+v: %v, not %v", a, b, answerBytes(a))
	}
	want, fault := a, api.OK
	switch {
	case len(a.Name) > 255:
		want, fault = api.Answer{}, api.ErrLong
	case a.Error < 0 || a.Error > math.MaxInt32:
		want, fault = api.Answer{}, api.ErrForm
	}
	if x, e := command.AnswerOf(b); e != fault || x != want {
		t.Fatalf("%+v: %+v, %d, not %d", a, x, e, fault)
	}
}

// noAnswer is that bytes are no answer's.
func noAnswer(t *testing.T, what string, b []byte, want api.Errno) {
	t.Helper()
	if a, e := command.AnswerOf(b); e != want || a != (api.Answer{}) {
		t.Errorf("%s, %v: %+v, %d, not %d", what, b, a, e, want)
	}
}

func TestAnswer(t *testing.T) {
	a := api.Answer{Error: api.ErrLoop, Name: "ab", Token: 300, Value: -5}
	want := []byte{9, 2, 'a', 'b', 0xac, 2, 9}
	if b := command.Answer(a); !bytes.Equal(b, want) {
		t.Error(b)
	}
	if x, e := command.AnswerOf(want); e != api.OK || x != a {
		t.Error(x, e)
	}
	if b := command.Answer(api.Answer{}); !bytes.Equal(b, []byte{0, 0, 0, 0}) {
		t.Error(b)
	}
	// An error below 0 is a number modulo 2^64.
	if b := command.Answer(api.Answer{Error: -1}); !bytes.Equal(b, []byte{255, 255, 255, 255, 255, 255, 255, 255, 255, 1, 0, 0, 0}) {
		t.Error(b)
	}
}

// errnos are api's, and others at their ends.
func errnos() []api.Errno {
	var l []api.Errno
	for e := api.OK; e <= api.ErrOld+1; e++ {
		l = append(l, e)
	}
	return append(l, 127, 128, 1<<16, math.MaxInt32-1, math.MaxInt32, math.MaxInt32+1, math.MaxUint32, 1<<32, 1<<32+7, math.MaxInt64, -1, -2, math.MinInt32, -1<<32, -1<<32+7, math.MinInt64, math.MinInt64+7)
}

// TestAnswerFields: each field at its ends, with each error.
func TestAnswerFields(t *testing.T) {
	for _, e := range errnos() {
		for _, n := range ends() {
			answers(t, api.Answer{Error: e, Token: uint64(n)})
			answers(t, api.Answer{Error: e, Value: n})
			answers(t, api.Answer{Error: e, Name: "a", Token: uint64(n), Value: -n})
		}
		for _, name := range texts() {
			answers(t, api.Answer{Error: e, Name: name})
			answers(t, api.Answer{Error: e, Name: name, Token: math.MaxUint64, Value: math.MinInt64})
		}
	}
	// A name that is too long to be read is written, and that is told ahead of the error's number.
	for _, n := range []int{254, 255, 256, 257, 300, 899, 900, 901, 5000} {
		for _, e := range errnos() {
			answers(t, api.Answer{Error: e, Name: strings.Repeat("x", n), Token: 1, Value: 1})
		}
	}
}

func TestAnswerChance(t *testing.T) {
	r := rand.New(rand.NewSource(18))
	for range 50000 {
		a := api.Answer{Error: api.Errno(r.Intn(22)), Name: chanceText(r), Token: uint64(chanceNumber(r)), Value: chanceNumber(r)}
		if r.Intn(4) == 0 {
			a.Error = api.Errno(chanceNumber(r))
		}
		answers(t, a)
	}
}

// TestAnswerNumbers: of errors as numbers those are read that have 31 bits.
func TestAnswerNumbers(t *testing.T) {
	for shift := range 64 {
		for _, x := range []uint64{1 << shift, 1<<shift + 1, 1<<shift - 1, 1<<63 | 1<<shift | 5} {
			b := append(numbers(x), 0, 0, 0)
			if x >= 1<<31 {
				noAnswer(t, "a great error", b, api.ErrForm)
				continue
			}
			if a, e := command.AnswerOf(b); e != api.OK || a != (api.Answer{Error: api.Errno(x)}) {
				t.Errorf("%d: %+v, %d", x, a, e)
			}
		}
	}
}

// TestAnswerErrors: chapter 1's come ahead of an error's number that is too great.
func TestAnswerErrors(t *testing.T) {
	noAnswer(t, "nothing", nil, api.ErrShort)
	noAnswer(t, "nothing", []byte{}, api.ErrShort)
	for _, a := range []api.Answer{{Error: 9, Name: "ab", Token: 300, Value: -5}, {Error: -9, Name: "ab", Token: 300, Value: -5}, {Error: 1 << 31, Name: strings.Repeat("x", 200)}} {
		b := answerBytes(a)
		for n := range b {
			noAnswer(t, "a beginning", b[:n], api.ErrShort)
		}
		for more := range 256 {
			noAnswer(t, "one byte more", append(slices.Clone(b), byte(more)), api.ErrLong)
		}
		noAnswer(t, "many bytes more", append(slices.Clone(b), make([]byte, 5000)...), api.ErrLong)
	}
	for at := range 4 {
		for _, n := range [][]byte{{0x80, 0}, {0x81, 0x80, 0}, {255, 255, 255, 255, 255, 255, 255, 255, 255, 2}} {
			noAnswer(t, "a number's form", slices.Concat(make([]byte, at), n, make([]byte, 3-at)), api.ErrForm)
		}
	}
	for _, n := range []uint64{256, 1 << 31, math.MaxInt64, 1 << 63, math.MaxUint64} {
		noAnswer(t, "a great name", numbers(0, n), api.ErrLong)
	}
	noAnswer(t, "a name that ends", []byte{0, 255, 1}, api.ErrShort)
}

// TestAnswerAnyBytes: bytes by chance, against the model.
func TestAnswerAnyBytes(t *testing.T) {
	r := rand.New(rand.NewSource(4))
	count := map[api.Errno]int{}
	for range 300000 {
		b := make([]byte, r.Intn(12))
		for i := range b {
			b[i] = byte(r.Intn(256) >> r.Intn(9))
		}
		want, fault := answerOf(b)
		a, e := command.AnswerOf(b)
		if e != fault || a != want {
			t.Fatalf("%v: %+v, %d, not %+v, %d", b, a, e, want, fault)
		}
		if e == api.OK && !bytes.Equal(command.Answer(a), b) {
			t.Fatalf("%v: %+v", b, a)
		}
		count[e]++
	}
	for _, e := range []api.Errno{api.OK, api.ErrForm, api.ErrShort, api.ErrLong} {
		if count[e] < 1000 {
			t.Error("too few of", int(e), count[e])
		}
	}
}

// TestAnswerMemory: what is handed in isn't changed or kept, and answers are new memory.
func TestAnswerMemory(t *testing.T) {
	a := api.Answer{Error: 9, Name: "ab", Token: 300, Value: -5}
	b, c := command.Answer(a), command.Answer(a)
	clear(b)
	if !bytes.Equal(c, answerBytes(a)) {
		t.Error("two answers share:", c)
	}
	room := append(c, 7, 7)
	x, e := command.AnswerOf(room[:len(c)])
	if !bytes.Equal(room, append(answerBytes(a), 7, 7)) {
		t.Error("what was handed in was changed:", room)
	}
	clear(room)
	if e != api.OK || x != a {
		t.Error("an answer has what was handed in:", x, e)
	}
}
