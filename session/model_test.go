package session_test

import (
	"bytes"
	"encoding/binary"
	"math"
	"slices"
	"testing"

	"compline/api"
	"compline/session"
)

// kept is a client's request, and its answer.
type kept struct {
	client, number uint64
	a              api.Answer
}

// model is a table by the words of chapter 20: each client's last request, the latest last.
type model []kept

// last is a client's last request; one that has none has the number 0.
func (m model) last(client uint64) kept {
	for _, k := range m {
		if k.client == client {
			return k
		}
	}
	return kept{}
}

// clients are those that there are, rising.
func (m model) clients() []uint64 {
	var l []uint64
	for _, k := range m {
		l = append(l, k.client)
	}
	slices.Sort(l)
	return l
}

func (m model) look(client, number uint64) (api.Answer, bool) {
	old := slices.Contains(m.clients(), client)
	switch last := m.last(client); {
	case old && number == last.number:
		return last.a, true
	case old && number < last.number:
		return api.Answer{Error: api.ErrOld}, true
	case client != 0 && !old && len(m.clients()) == 16:
		return api.Answer{Error: api.ErrFull}, true
	}
	return api.Answer{}, false
}

func (m *model) keep(client, number uint64, a api.Answer) api.Errno {
	old := slices.Contains(m.clients(), client)
	switch {
	case client == 0 || number == 0:
		return api.ErrArg
	case old && number <= m.last(client).number:
		return api.ErrOld
	case !old && len(m.clients()) == 16:
		return api.ErrFull
	case len(a.Name) > 255:
		return api.ErrLong
	}
	others := slices.DeleteFunc(slices.Clone(*m), func(k kept) bool { return k.client == client })
	*m = append(others, kept{client, number, a})
	return api.OK
}

// answerBytes is an answer as bytes, by the words of chapter 18.
func answerBytes(a api.Answer) []byte {
	b := binary.AppendUvarint(nil, uint64(int64(a.Error)))
	b = append(binary.AppendUvarint(b, uint64(len(a.Name))), a.Name...)
	b = binary.AppendUvarint(b, a.Token)
	return binary.AppendVarint(b, a.Value)
}

// row is a client, its number and a text, behind other bytes.
func row(b []byte, client, number uint64, text []byte) []byte {
	b = binary.AppendUvarint(b, client)
	b = binary.AppendUvarint(b, number)
	return append(binary.AppendUvarint(b, uint64(len(text))), text...)
}

// rows is clients as bytes, whether there may be such a table or not.
func rows(l ...kept) []byte {
	b := binary.AppendUvarint(nil, uint64(len(l)))
	for _, k := range l {
		b = row(b, k.client, k.number, answerBytes(k.a))
	}
	return b
}

// bytes is the model of Bytes.
func (m model) bytes() []byte {
	var l []kept
	for _, client := range m.clients() {
		l = append(l, m.last(client))
	}
	return rows(l...)
}

// source is bytes that are read by the words of chapter 1, and the first error.
type source struct {
	b []byte
	e api.Errno
}

func (s *source) fail(e api.Errno) {
	if s.e == api.OK {
		s.e = e
	}
}

func (s *source) num() uint64 {
	if s.e != api.OK {
		return 0
	}
	for i := range s.b {
		if i == 9 && s.b[i] > 1 || i > 0 && s.b[i] == 0 {
			s.fail(api.ErrForm)
			return 0
		}
		if s.b[i] < 128 {
			x, n := binary.Uvarint(s.b)
			s.b = s.b[n:]
			return x
		}
	}
	s.fail(api.ErrShort)
	return 0
}

func (s *source) count(most uint64) int {
	n := s.num()
	if n > most {
		s.fail(api.ErrLong)
	}
	if s.e != api.OK {
		return 0
	}
	return int(n)
}

func (s *source) text(most uint64) []byte {
	n := s.count(most)
	if n > len(s.b) {
		s.fail(api.ErrShort)
	}
	if s.e != api.OK {
		return nil
	}
	t := s.b[:n]
	s.b = s.b[n:]
	return t
}

func (s *source) end() api.Errno {
	if len(s.b) > 0 {
		s.fail(api.ErrLong)
	}
	return s.e
}

// answerErrorOf is the error with which an answer's bytes are read, by the words of chapter 18.
func answerErrorOf(b []byte) api.Errno {
	s := &source{b: b}
	number := s.num()
	s.text(255)
	s.num()
	s.num()
	if e := s.end(); e != api.OK {
		return e
	}
	if number > math.MaxInt32 {
		return api.ErrForm
	}
	return api.OK
}

// errorOf is the error with which a table's bytes are read: those of chapter 1, then those of chapter 18, then those of clients that may not be.
func errorOf(b []byte) api.Errno {
	s := &source{b: b}
	var clients, numbers []uint64
	var answers [][]byte
	for range s.count(16) {
		clients = append(clients, s.num())
		numbers = append(numbers, s.num())
		answers = append(answers, s.text(300))
	}
	if e := s.end(); e != api.OK {
		return e
	}
	for _, a := range answers {
		if e := answerErrorOf(a); e != api.OK {
			return e
		}
	}
	for i, client := range clients {
		if client == 0 || numbers[i] == 0 || i > 0 && client <= clients[i-1] {
			return api.ErrForm
		}
	}
	return api.OK
}

// holds holds all that can be asked of a table against its model, of clients that it doesn't know, too.
func holds(t *testing.T, what string, s *session.Table, m model) {
	t.Helper()
	if n, want := s.Len(), len(m.clients()); n != want {
		t.Fatalf("%s: Len: %d, not %d", what, n, want)
	}
	if b, want := s.Bytes(), m.bytes(); !bytes.Equal(b, want) {
		t.Fatalf("%s: %v, not %v", what, b, want)
	}
	for _, client := range append(m.clients(), 0, 1, 2, 99, 1<<32+1, math.MaxUint64) {
		last := m.last(client).number
		if n := s.Last(client); n != last {
			t.Fatalf("%s: Last(%d): %d, not %d", what, client, n, last)
		}
		for _, number := range []uint64{last - 1, last, last + 1, 0, 1, 2, 1<<32 + last, math.MaxUint64} {
			a, ok := s.Look(client, number)
			if b, want := m.look(client, number); ok != want || a != b {
				t.Fatalf("%s: Look(%d, %d), of %d the last: %+v, %t, not %+v, %t", what, client, number, last, a, ok, b, want)
			}
		}
	}
}

// keep does the same to a table and to its model.
func keep(t *testing.T, s *session.Table, m *model, client, number uint64, a api.Answer) {
	t.Helper()
	last := m.last(client).number
	if e, want := s.Keep(client, number, a), m.keep(client, number, a); e != want {
		t.Fatalf("Keep(%d, %d, %+v), %d the last: %d, not %d", client, number, a, last, e, want)
	}
}

// refused is that a request isn't kept, why, and that the table is as it was.
func refused(t *testing.T, what string, s *session.Table, m model, client, number uint64, a api.Answer, want api.Errno) {
	t.Helper()
	if e := s.Keep(client, number, a); e != want {
		t.Errorf("%s: Keep(%d, %d, %+v): %d, not %d", what, client, number, a, e, want)
	}
	holds(t, what, s, m)
}

// filled is a table of some clients, and a model of it.
func filled(t *testing.T, clients ...uint64) (*session.Table, model) {
	t.Helper()
	s, m := session.New(), model{}
	for i, client := range clients {
		keep(t, s, &m, client, uint64(i)+5, api.Answer{Value: int64(i), Token: client})
	}
	return s, m
}

// upTo is the numbers of 1 to n.
func upTo(n uint64) []uint64 {
	var l []uint64
	for i := range n {
		l = append(l, i+1)
	}
	return l
}

// again is a table that is read of another one's bytes, and tells what its model tells.
func again(t *testing.T, s *session.Table, m model) *session.Table {
	t.Helper()
	x, e := session.Of(s.Bytes())
	if x == nil || e != api.OK {
		t.Fatalf("%v: %v, %d", s.Bytes(), x, e)
	}
	holds(t, "read again", x, m)
	return x
}

// reads holds what bytes are read to against the model.
func reads(t *testing.T, b []byte) api.Errno {
	t.Helper()
	want := errorOf(b)
	given := bytes.Clone(b)
	s, e := session.Of(b)
	if e != want || (s != nil) != (e == api.OK) {
		t.Fatalf("%v: %v, %d, not %d", b, s, e, want)
	}
	if !bytes.Equal(b, given) {
		t.Fatalf("%v was changed: %v", given, b)
	}
	if s != nil && !bytes.Equal(s.Bytes(), b) {
		t.Fatalf("%v: %v", b, s.Bytes())
	}
	return e
}

// wrong is that bytes are no table's, and why.
func wrong(t *testing.T, what string, b []byte, want api.Errno) {
	t.Helper()
	if s, e := session.Of(b); s != nil || e != want {
		t.Errorf("%s, %v: %v, %d, not %d", what, b, s, e, want)
	}
}
