package heap_test

import (
	"cmp"
	"maps"
	"math"
	"math/rand"
	"slices"
	"strconv"
	"testing"
	"time"

	"compline/heap"
)

// order holds two items against each other, by the words of chapter 9.
func order[K cmp.Ordered, R cmp.Ordered](a, b heap.Item[K, R]) int {
	switch {
	case a.Rank < b.Rank:
		return -1
	case a.Rank > b.Rank:
		return 1
	case a.Key < b.Key:
		return -1
	case a.Key > b.Key:
		return 1
	}
	return 0
}

// sorted is the items of a map from keys to ranks, the first one first.
func sorted[K cmp.Ordered, R cmp.Ordered](m map[K]R) []heap.Item[K, R] {
	var l []heap.Item[K, R]
	for k, r := range m {
		l = append(l, heap.Item[K, R]{Key: k, Rank: r})
	}
	slices.SortFunc(l, order)
	return l
}

// popped is what comes out of a copy of a heap, one behind the other.
func popped[K cmp.Ordered, R cmp.Ordered](h *heap.Heap[K, R]) []heap.Item[K, R] {
	var l []heap.Item[K, R]
	for h = h.Copy(); ; {
		x, ok := h.Pop()
		if !ok {
			return l
		}
		l = append(l, x)
	}
}

// none holds an answer against that of nothing.
func none[T comparable](t *testing.T, what string, x T, ok bool) {
	t.Helper()
	var zero T
	if x != zero || ok {
		t.Errorf("%s: %v, %v, not nothing", what, x, ok)
	}
}

// holds holds all that can be asked of a heap against the keys and ranks that it should have, and against keys that may not be there.
func holds[K cmp.Ordered, R cmp.Ordered](t *testing.T, what string, h *heap.Heap[K, R], m map[K]R, keys ...K) {
	t.Helper()
	want := sorted(m)
	if h.Len() != len(m) {
		t.Fatalf("%s: Len: %d, not %d", what, h.Len(), len(m))
	}
	if l := slices.Collect(h.All()); !slices.Equal(l, want) {
		t.Fatalf("%s: All: %v, not %v", what, l, want)
	}
	if l := popped(h); !slices.Equal(l, want) {
		t.Fatalf("%s: Pop: %v, not %v", what, l, want)
	}
	if x, ok := h.First(); ok != (len(m) > 0) || ok && x != want[0] {
		t.Fatalf("%s: First: %v, %v, not that of %v", what, x, ok, want)
	} else if !ok {
		none(t, what+": First", x, ok)
	}
	for _, k := range slices.Concat(slices.Collect(maps.Keys(m)), keys) {
		r, ok := h.Rank(k)
		w, there := m[k]
		if r != w || ok != there {
			t.Fatalf("%s: Rank(%v): %v, %v, not %v, %v", what, k, r, ok, w, there)
		}
	}
}

// put puts a key in a heap, and in the map that it is held against.
func put[K cmp.Ordered, R cmp.Ordered](t *testing.T, h *heap.Heap[K, R], m map[K]R, k K, r R) {
	t.Helper()
	_, there := m[k]
	if h.Put(k, r) != there {
		t.Fatalf("Put(%v, %v): %v", k, r, !there)
	}
	m[k] = r
}

// cut cuts a key out of both.
func cut[K cmp.Ordered, R cmp.Ordered](t *testing.T, h *heap.Heap[K, R], m map[K]R, k K) {
	t.Helper()
	_, there := m[k]
	if h.Cut(k) != there {
		t.Fatalf("Cut(%v): %v", k, !there)
	}
	delete(m, k)
}

// pop takes the first one out of both.
func pop[K cmp.Ordered, R cmp.Ordered](t *testing.T, h *heap.Heap[K, R], m map[K]R) {
	t.Helper()
	x, ok := h.Pop()
	if len(m) == 0 {
		none(t, "Pop", x, ok)
		return
	}
	if want := sorted(m)[0]; x != want || !ok {
		t.Fatalf("Pop: %v, %v, not %v", x, ok, want)
	}
	delete(m, x.Key)
}

// TestExample is the chapter's.
func TestExample(t *testing.T) {
	h := heap.New[string, int]()
	h.Put("b", 2)
	h.Put("a", 2)
	h.Put("c", 1)
	for _, want := range []heap.Item[string, int]{{"c", 1}, {"a", 2}, {"b", 2}} {
		if x, ok := h.Pop(); x != want || !ok {
			t.Errorf("Pop: %v, %v, not %v", x, ok, want)
		}
	}
	holds(t, "behind all", h, nil, "a", "b", "c")
}

func TestNew(t *testing.T) {
	h := heap.New[string, float64]()
	if h == nil {
		t.Fatal("New: nil")
	}
	holds(t, "New", h, nil, "", "a")
	if h.Cut("") || h.Cut("a") {
		t.Error("Cut: of nothing")
	}
	pop(t, h, nil)
	holds(t, "still", h, nil, "", "a")
	holds(t, "a copy", h.Copy(), nil, "", "a")
	if g := heap.New[string, float64](); h.Put("a", 1) || g.Len() != 0 {
		t.Error("two of New aren't apart")
	}
}

// TestZeroKeys: a key, or a rank, that is its type's zero value is as good as any.
func TestZeroKeys(t *testing.T) {
	h, m := heap.New[string, int](), map[string]int{}
	put(t, h, m, "", 0)
	holds(t, "one", h, m, "a")
	put(t, h, m, "", 0)
	put(t, h, m, "a", -1)
	holds(t, "two", h, m)
	put(t, h, m, "", -2)
	holds(t, "ahead", h, m)
	cut(t, h, m, "")
	holds(t, "cut", h, m, "")
}

func TestPut(t *testing.T) {
	h, m := heap.New[int, int](), map[int]int{}
	for k := range 20 {
		put(t, h, m, k, 10*(k*7%20))
		holds(t, "Put", h, m, -1, k+1)
	}
	// Each one with each rank: down, up, to where it was, ahead of those that are alike, and behind them.
	for k := range 20 {
		for r := -5; r <= 200; r += 5 {
			put(t, h, m, k, r)
			holds(t, "Put again", h, m, -1, 20)
		}
		put(t, h, m, k, 10*(k*7%20))
	}
	holds(t, "in the end", h, m)
}

// TestLesserKeyFirst is of ranks that are alike.
func TestLesserKeyFirst(t *testing.T) {
	h, m := heap.New[int, string](), map[int]string{}
	for _, k := range rand.New(rand.NewSource(91)).Perm(100) {
		put(t, h, m, k-50, "same")
	}
	holds(t, "alike", h, m)
	for want := range 100 {
		if x, ok := h.Pop(); x.Key != want-50 || x.Rank != "same" || !ok {
			t.Fatalf("Pop: %v, %v, not %d", x, ok, want-50)
		}
	}
}

// TestCut is of each one of heaps of up to 40, in many orders.
func TestCut(t *testing.T) {
	r := rand.New(rand.NewSource(92))
	for n := 1; n <= 40; n++ {
		for k := range n {
			h, m := heap.New[int, int](), map[int]int{}
			for _, i := range r.Perm(n) {
				put(t, h, m, i, r.Intn(n))
			}
			cut(t, h, m, k)
			holds(t, "Cut", h, m, k, n)
			cut(t, h, m, k)
			holds(t, "Cut again", h, m, k, n)
			put(t, h, m, k, r.Intn(n))
			holds(t, "Put behind Cut", h, m, k, n)
		}
	}
}

// all plays all rows of so many steps: each puts one of the keys with one of the ranks, cuts one, or pops.
func all(t *testing.T, h *heap.Heap[int, int], m map[int]int, keys, ranks, steps int) {
	t.Helper()
	holds(t, "all", h, m, keys)
	if steps == 0 {
		return
	}
	for k := range keys {
		for r := range ranks {
			g, n := h.Copy(), maps.Clone(m)
			put(t, g, n, k, r)
			all(t, g, n, keys, ranks, steps-1)
		}
		g, n := h.Copy(), maps.Clone(m)
		cut(t, g, n, k)
		all(t, g, n, keys, ranks, steps-1)
	}
	g, n := h.Copy(), maps.Clone(m)
	pop(t, g, n)
	all(t, g, n, keys, ranks, steps-1)
}

func TestAllSteps(t *testing.T) {
	all(t, heap.New[int, int](), map[int]int{}, 3, 2, 4)
	all(t, heap.New[int, int](), map[int]int{}, 2, 2, 5)
}

// TestAllOrders is of all rows of up to 7 keys, put in with all orders of ranks.
func TestAllOrders(t *testing.T) {
	var order func(ranks []int, n int)
	order = func(ranks []int, n int) {
		if len(ranks) == n {
			h, m := heap.New[int, int](), map[int]int{}
			for k, r := range ranks {
				put(t, h, m, k, r)
			}
			holds(t, "all orders", h, m)
			return
		}
		for r := range n {
			if !slices.Contains(ranks, r) {
				order(append(slices.Clone(ranks), r), n)
			}
		}
	}
	for n := range 8 {
		order(nil, n)
	}
}

// play plays a long row of steps by chance, with keys and ranks of these.
func play[K cmp.Ordered, R cmp.Ordered](t *testing.T, seed int64, keys []K, ranks []R) {
	t.Helper()
	r := rand.New(rand.NewSource(seed))
	h, m := heap.New[K, R](), map[K]R{}
	for i := range 4000 {
		k := keys[r.Intn(len(keys))]
		// In turns it grows and shrinks.
		grows := i/500%2 == 0
		switch n := r.Intn(10); {
		case n < 4 || grows && n < 8:
			put(t, h, m, k, ranks[r.Intn(len(ranks))])
		case n < 8:
			cut(t, h, m, k)
		case n < 9:
			pop(t, h, m)
		default:
			h = h.Copy()
		}
		if i%10 == 0 {
			holds(t, "any step", h, m, k)
		}
	}
}

type name string
type level uint8

// TestAnySteps is of many types, with values at their ends.
func TestAnySteps(t *testing.T) {
	var names []name
	var texts []string
	var levels []level
	for i := range 256 {
		names = append(names, name(strconv.Itoa(i)))
		texts = append(texts, string([]byte{byte(i), byte(i * 7)})[:i%3])
		levels = append(levels, level(i))
	}
	ints := []int64{math.MinInt64, math.MinInt64 + 1, -1, 0, 1, math.MaxInt64 - 1, math.MaxInt64}
	uints := []uint64{0, 1, 1<<63 - 1, 1 << 63, math.MaxUint64 - 1, math.MaxUint64}
	floats := []float64{math.Inf(-1), -math.MaxFloat64, -1, -math.SmallestNonzeroFloat64, 0, math.Copysign(0, -1), 0.5, math.MaxFloat64, math.Inf(1)}
	play(t, 1, names, ints)
	play(t, 2, texts, uints)
	play(t, 3, levels, floats)
	play(t, 4, levels, levels)
	play(t, 5, ints, texts)
	play(t, 6, uints, names)
	play(t, 7, floats, floats)
	play(t, 8, texts, texts)
	play(t, 9, []float32{-1.5, 0, 2.5}, []uintptr{0, 1})
	play(t, 10, []int8{-128, -1, 0, 127}, []int8{-128, -1, 0, 127})
}

// TestZeroes: both zeroes of floats are one key, and alike as ranks.
func TestZeroes(t *testing.T) {
	minus := math.Copysign(0, -1)
	h := heap.New[float64, float64]()
	if h.Put(0, 1) || !h.Put(minus, 2) || h.Len() != 1 {
		t.Error("Put: two zeroes")
	}
	if r, ok := h.Rank(0); r != 2 || !ok {
		t.Error("Rank of 0:", r, ok)
	}
	if !h.Cut(minus) || h.Cut(0) || h.Len() != 0 {
		t.Error("Cut: two zeroes")
	}
	h.Put(2, minus)
	h.Put(1, 0)
	if x, _ := h.First(); x.Key != 1 {
		t.Error("First: of ranks 0 and -0 not the lesser key but", x)
	}
	h.Put(1, minus)
	h.Put(2, 0)
	if x, _ := h.First(); x.Key != 1 {
		t.Error("First: of ranks -0 and 0 not the lesser key but", x)
	}
	if r, _ := h.Rank(2); math.Signbit(r) {
		t.Error("Rank: not the new one")
	}
}

// TestNoSuchKey: to ask for what is no number puts nothing in.
func TestNoSuchKey(t *testing.T) {
	nan := math.NaN()
	h, m := heap.New[float64, int](), map[float64]int{}
	for k := range 5 {
		put(t, h, m, float64(k), k)
	}
	r, ok := h.Rank(nan)
	none(t, "Rank", r, ok)
	if h.Cut(nan) {
		t.Error("Cut: true")
	}
	holds(t, "behind it", h, m, nan)
}

// TestNaNs: nothing is promised of a heap with such ones, but that each call answers.
func TestNaNs(t *testing.T) {
	nan := math.NaN()
	h := heap.New[float64, float64]()
	for i := range 50 {
		h.Put(nan, float64(i))
		h.Put(float64(i), nan)
		h.Put(nan, nan)
		h.Put(float64(-i), float64(i))
		h.Cut(float64(i / 2))
		h.Cut(nan)
		h.Rank(nan)
		h.First()
		h.Copy().Pop()
		for range h.All() {
		}
	}
	for range 300 {
		h.Pop()
	}
}

func TestNilHeap(t *testing.T) {
	var h *heap.Heap[string, int]
	if h.Put("a", 1) || h.Put("a", 1) || h.Cut("a") || h.Len() != 0 || h.Copy() != nil {
		t.Error("a nil heap has something")
	}
	x, ok := h.First()
	none(t, "First", x, ok)
	x, ok = h.Pop()
	none(t, "Pop", x, ok)
	r, ok := h.Rank("a")
	none(t, "Rank", r, ok)
	for x := range h.All() {
		t.Error("All:", x)
	}
	h.All()(nil)
}

// TestHeapOfNothing: a heap that isn't of New is an empty one.
func TestHeapOfNothing(t *testing.T) {
	h, m := &heap.Heap[string, int]{}, map[string]int{}
	holds(t, "of nothing", h, m, "a")
	holds(t, "its copy", h.Copy(), m, "a")
	cut(t, h, m, "a")
	pop(t, h, m)
	put(t, h, m, "a", 1)
	holds(t, "of one", h, m, "b")
}

// many is a heap of so many, and what it has.
func many(t *testing.T, n int) (*heap.Heap[int, int], map[int]int) {
	t.Helper()
	r := rand.New(rand.NewSource(int64(n)))
	h, m := heap.New[int, int](), map[int]int{}
	for _, k := range r.Perm(n) {
		put(t, h, m, k, r.Intn(n))
	}
	return h, m
}

// TestTheHeapStays: who asks changes nothing.
func TestTheHeapStays(t *testing.T) {
	h, m := many(t, 50)
	want := sorted(m)
	all := h.All()
	for n := range 52 {
		var l []heap.Item[int, int]
		for x := range all {
			if len(l) == n {
				break
			}
			l = append(l, x)
		}
		if !slices.Equal(l, want[:min(n, 50)]) {
			t.Fatalf("All up to %d: %v", n, l)
		}
		h.First()
		h.Len()
		h.Rank(n)
		h.Copy()
	}
	all(nil)
	holds(t, "behind all", h, m)
}

// TestAllWhileChanged: what is told is what the heap had when it was asked, whatever is done to it meanwhile.
func TestAllWhileChanged(t *testing.T) {
	do := []func(h *heap.Heap[int, int], x heap.Item[int, int]){
		func(h *heap.Heap[int, int], _ heap.Item[int, int]) { h.Pop() },
		func(h *heap.Heap[int, int], x heap.Item[int, int]) { h.Cut(x.Key + 1) },
		func(h *heap.Heap[int, int], x heap.Item[int, int]) { h.Put(x.Key, -x.Rank) },
		func(h *heap.Heap[int, int], x heap.Item[int, int]) { h.Put(x.Key+1000, x.Rank+1) },
	}
	for i, f := range do {
		h, m := many(t, 50)
		all := h.All()
		for range 2 {
			var l []heap.Item[int, int]
			for x := range all {
				f(h, x)
				l = append(l, x)
			}
			if !slices.Equal(l, sorted(m)) {
				t.Errorf("%d: %v, not %v", i, l, sorted(m))
			}
		}
	}
}

// TestCopy: a heap and its copy are apart, whatever is done to one of them.
func TestCopy(t *testing.T) {
	do := []func(*testing.T, *heap.Heap[int, int], map[int]int){
		func(t *testing.T, h *heap.Heap[int, int], m map[int]int) { pop(t, h, m) },
		func(t *testing.T, h *heap.Heap[int, int], m map[int]int) { cut(t, h, m, 0) },
		func(t *testing.T, h *heap.Heap[int, int], m map[int]int) { cut(t, h, m, 3) },
		func(t *testing.T, h *heap.Heap[int, int], m map[int]int) { put(t, h, m, 0, -1) },
		func(t *testing.T, h *heap.Heap[int, int], m map[int]int) { put(t, h, m, 0, 100) },
		func(t *testing.T, h *heap.Heap[int, int], m map[int]int) { put(t, h, m, 100, -1) },
		func(t *testing.T, h *heap.Heap[int, int], m map[int]int) {
			for range 100 {
				pop(t, h, m)
			}
			put(t, h, m, 7, 7)
		},
	}
	for n := range 12 {
		for _, f := range do {
			h, m := many(t, n)
			g, w := h.Copy(), maps.Clone(m)
			if g == h {
				t.Fatal("Copy: itself")
			}
			f(t, g, w)
			holds(t, "the heap", h, m, 0, 3, 7, 100)
			holds(t, "its copy", g, w, 0, 3, 7, 100)
			g, w = h.Copy(), maps.Clone(m)
			f(t, h, m)
			holds(t, "the heap, changed", h, m, 0, 3, 7, 100)
			holds(t, "its copy, not changed", g, w, 0, 3, 7, 100)
			f(t, g, w)
			holds(t, "both changed", h, m, 0, 3, 7, 100)
			holds(t, "both changed", g, w, 0, 3, 7, 100)
		}
	}
}

// TestMany: each call but All and Copy goes down the tree, not through all.
func TestMany(t *testing.T) {
	const n = 200000
	start := time.Now()
	r := rand.New(rand.NewSource(93))
	h := heap.New[int, int]()
	for _, k := range r.Perm(n) {
		h.Put(k, -k)
	}
	for _, k := range r.Perm(n) {
		if !h.Put(k, k/2) {
			t.Fatal("Put: not there:", k)
		}
	}
	for k := 0; k < n; k += 2 {
		if !h.Cut(k) {
			t.Fatal("Cut: not there:", k)
		}
	}
	if h.Len() != n/2 {
		t.Fatal("Len:", h.Len())
	}
	k := 1
	for x := range h.All() {
		if x.Key != k || x.Rank != k/2 {
			t.Fatal("All:", x, k)
		}
		if p, ok := h.Pop(); p != x || !ok {
			t.Fatal("Pop:", p, ok, x)
		}
		k += 2
	}
	if k != n+1 || h.Len() != 0 {
		t.Error("in the end:", k, h.Len())
	}
	if d := time.Since(start); d > 20*time.Second {
		t.Error("it took", d)
	}
}
