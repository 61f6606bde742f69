package dag

import "cmp"

// tree is keys in a row, each one not above both below it: the least one is first.
type tree[K cmp.Ordered] []K

// push lays one in.
func (t *tree[K]) push(k K) {
	*t = append(*t, k)
	l := *t
	for i := len(l) - 1; i > 0; {
		up := (i - 1) / 2
		if !cmp.Less(l[i], l[up]) {
			return
		}
		l[i], l[up] = l[up], l[i]
		i = up
	}
}

// least is the place of the lesser one of both below a place; beyond all, if there is none.
func (t tree[K]) least(i int) int {
	left := 2*i + 1
	if right := left + 1; right < len(t) && cmp.Less(t[right], t[left]) {
		return right
	}
	return left
}

// pop takes the least one out; there is one.
func (t *tree[K]) pop() K {
	l := *t
	first, last := l[0], len(l)-1
	l[0] = l[last]
	l = l[:last]
	for i, j := 0, l.least(0); j < last && cmp.Less(l[j], l[i]); j = l.least(i) {
		l[i], l[j] = l[j], l[i]
		i = j
	}
	*t = l
	return first
}
