package dag

import "cmp"

// walk goes from one node on to those that stand on it, or that it stands on, and through them to all.
type walk[K cmp.Ordered] struct {
	next  func(id[K]) set[K]
	found set[K]
	rest  []id[K] // whose next ones aren't found yet
}

// up is from a node to all that stand on it.
func (g *Graph[K]) up(x id[K]) *walk[K] {
	return &walk[K]{func(x id[K]) set[K] { return g.nodes[x].users }, set[K]{}, []id[K]{x}}
}

// down is from a node to all that it stands on.
func (g *Graph[K]) down(x id[K]) *walk[K] {
	return &walk[K]{func(x id[K]) set[K] { return g.nodes[x].on }, set[K]{}, []id[K]{x}}
}

// ends is whether all are found.
func (w *walk[K]) ends() bool { return len(w.rest) == 0 }

// cost is of the steps so far and of the one ahead.
func (w *walk[K]) cost() int { return len(w.found) + len(w.next(w.rest[len(w.rest)-1])) }

// step finds what is next to one node.
func (w *walk[K]) step() {
	last := len(w.rest) - 1
	x := w.rest[last]
	w.rest = w.rest[:last]
	for y := range w.next(x) {
		if !w.has(y) {
			w.found[y] = struct{}{}
			w.rest = append(w.rest, y)
		}
	}
}

// has is whether a node is found.
func (w *walk[K]) has(x id[K]) bool {
	_, ok := w.found[x]
	return ok
}

// all is what a walk finds in the end.
func (w *walk[K]) all() set[K] {
	for !w.ends() {
		w.step()
	}
	return w.found
}

// stands is whether one stands on another one, through whatever many.
func (g *Graph[K]) stands(x, on id[K]) bool {
	// From both ends, the cheaper one first: where one of them has few around it, the others aren't gone through.
	down, up := g.down(x), g.up(on)
	for !down.ends() && !up.ends() {
		if down.cost() < up.cost() {
			down.step()
		} else {
			up.step()
		}
	}
	if down.ends() {
		return down.has(on)
	}
	return up.has(x)
}
