package command_test

import (
	"bytes"
	"math"
	"slices"
	"testing"

	"compline/api"
	"compline/command"
)

// members holds members' bytes against the model, and what is read of them against the members.
func members(t *testing.T, l []int) {
	t.Helper()
	given := slices.Clone(l)
	b, e := command.Members(l)
	if !slices.Equal(l, given) {
		t.Fatalf("%v were changed: %v", given, l)
	}
	if !rightMembers(l) {
		if b != nil || e != api.ErrArg {
			t.Fatalf("%v: %v, %d", l, b, e)
		}
		return
	}
	want := []byte{byte(len(l))}
	for _, n := range l {
		want = append(want, byte(n))
	}
	if e != api.OK || !bytes.Equal(b, want) {
		t.Fatalf("%v: %v, %d", l, b, e)
	}
	if x, e := command.MembersOf(b); e != api.OK || !slices.Equal(x, l) {
		t.Fatalf("%v: %v, %d", l, x, e)
	}
}

// noMembers is that bytes are no members'.
func noMembers(t *testing.T, what string, b []byte, want api.Errno) {
	t.Helper()
	if l, e := command.MembersOf(b); e != want || l != nil {
		t.Errorf("%s, %v: %v, %d, not %d", what, b, l, e, want)
	}
}

// sets are all members that may be.
func sets() [][]int {
	var l [][]int
	for bits := 1; bits < 1<<7; bits++ {
		var s []int
		for n := 1; n <= 7; n++ {
			if bits>>(n-1)&1 == 1 {
				s = append(s, n)
			}
		}
		l = append(l, s)
	}
	return l
}

func TestMembers(t *testing.T) {
	if b, e := command.Members([]int{1, 2}); e != api.OK || !bytes.Equal(b, []byte{2, 1, 2}) {
		t.Error(b, e)
	}
	for _, l := range sets() {
		members(t, l)
		// Each one twice, and each two the other way round.
		for i, n := range l {
			members(t, slices.Insert(slices.Clone(l), i, n))
			for k := range i {
				other := slices.Clone(l)
				other[i], other[k] = other[k], other[i]
				members(t, other)
			}
			for _, wrong := range []int{0, -1, -n, 8, 9, 127, 128, 256 + n, 1<<32 + n, -1<<32 + n, math.MaxInt, math.MinInt, math.MinInt + n} {
				other := slices.Clone(l)
				other[i] = wrong
				members(t, other)
			}
		}
	}
	for _, l := range [][]int{nil, {}, {0, 1, 2, 3, 4, 5, 6, 7}, {1, 2, 3, 4, 5, 6, 7, 8}, {1, 2, 3, 4, 5, 6, 7, 7}, {0, 1}, {7, 8}, {8}, make([]int, 7), make([]int, 1<<20)} {
		members(t, l)
	}
}

// TestMembersShort: all rows of up to four nodes, that may be or not.
func TestMembersShort(t *testing.T) {
	var all func(l []int, left int)
	all = func(l []int, left int) {
		members(t, l)
		if left == 0 {
			return
		}
		for n := -1; n <= 9; n++ {
			all(append(l, n), left-1)
		}
	}
	all(make([]int, 0, 8), 4)
}

// TestMembersOf: rows that are no members', and bytes that are no row.
func TestMembersOf(t *testing.T) {
	noMembers(t, "nothing", nil, api.ErrShort)
	noMembers(t, "nothing", []byte{}, api.ErrShort)
	noMembers(t, "none", []byte{0}, api.ErrForm)
	noMembers(t, "two alike", []byte{2, 3, 3}, api.ErrForm)
	noMembers(t, "falling", []byte{2, 3, 2}, api.ErrForm)
	noMembers(t, "0", []byte{1, 0}, api.ErrForm)
	noMembers(t, "8", []byte{1, 8}, api.ErrForm)
	noMembers(t, "too many", []byte{8, 1, 2, 3, 4, 5, 6, 7, 8}, api.ErrLong)
	noMembers(t, "too many, that aren't there", []byte{8}, api.ErrLong)
	noMembers(t, "something behind none", []byte{0, 1}, api.ErrLong)
	noMembers(t, "something behind two alike", []byte{2, 3, 3, 0}, api.ErrLong)
	noMembers(t, "a number's form behind a falling one", []byte{3, 3, 2, 0x80, 0}, api.ErrForm)
	noMembers(t, "the end behind a falling one", []byte{3, 3, 2}, api.ErrShort)
	for shift := 3; shift < 64; shift++ {
		for low := range uint64(8) {
			n := uint64(1)<<shift | low
			noMembers(t, "a great node", numbers(1, n), api.ErrForm)
			noMembers(t, "a great node", numbers(2, 1, n), api.ErrForm)
			noMembers(t, "a great node", numbers(3, 1, n, 7), api.ErrForm)
			noMembers(t, "a great count", numbers(n, 1, 2, 3), api.ErrLong)
		}
	}
	noMembers(t, "the greatest node", numbers(1, math.MaxUint64), api.ErrForm)
	for _, l := range sets() {
		b, _ := command.Members(l)
		for n := range b {
			noMembers(t, "a beginning", b[:n], api.ErrShort)
			noMembers(t, "a number's form", slices.Concat(b[:n], []byte{b[n] | 0x80, 0}, b[n+1:]), api.ErrForm)
		}
		for more := range 256 {
			noMembers(t, "one byte more", append(slices.Clone(b), byte(more)), api.ErrLong)
		}
	}
}

// TestMembersBytes: all of up to five of some bytes, against the model.
func TestMembersBytes(t *testing.T) {
	var all func(b []byte, left int)
	all = func(b []byte, left int) {
		want, fault := membersOf(b)
		if l, e := command.MembersOf(b); e != fault || !slices.Equal(l, want) {
			t.Fatalf("%v: %v, %d, not %v, %d", b, l, e, want, fault)
		}
		if left == 0 {
			return
		}
		for _, sign := range []byte{0, 1, 2, 3, 4, 6, 7, 8, 9, 127, 128, 129, 255} {
			all(append(b, sign), left-1)
		}
	}
	all(make([]byte, 0, 8), 5)
}

// TestMembersMemory: what is handed in isn't changed or kept, and answers are new memory.
func TestMembersMemory(t *testing.T) {
	room := []int{1, 3, 9, 9, 9}
	b, _ := command.Members(room[:2])
	c, _ := command.Members(room[:2])
	if !slices.Equal(room, []int{1, 3, 9, 9, 9}) {
		t.Error("what was handed in was changed:", room)
	}
	clear(room)
	clear(b)
	if !bytes.Equal(c, []byte{2, 1, 3}) {
		t.Error("two answers share, or one has what was handed in:", c)
	}
	more := append(c, 9, 9, 9)
	l, _ := command.MembersOf(more[:3])
	k, _ := command.MembersOf(more[:3])
	if !bytes.Equal(more, []byte{2, 1, 3, 9, 9, 9}) {
		t.Error("what was handed in was changed:", more)
	}
	clear(more)
	clear(l)
	_ = append(l, 5)
	if !slices.Equal(k, []int{1, 3}) {
		t.Error("two answers share, or one has what was handed in:", k)
	}
}
