package image_test

import (
	"bytes"
	"math/rand"
	"slices"
	"strconv"
	"strings"
	"testing"

	"compline/api"
	"compline/image"
	"compline/sched"
)

// P19.2

// names are those of jobs by chance; instances of templates have names among them.
func names() []string { return strings.Split("a,b,c,d,e,f,c.1,c.2,c.3,d.1", ",") }

// pick is one of a list.
func pick[T any](r *rand.Rand, l []T) T { return l[r.Intn(len(l))] }

// chanceSpec is a spec by chance.
func chanceSpec(r *rand.Rand) api.Spec {
	s := api.Spec{Name: pick(r, names()), Tenant: pick(r, []string{"t", "u"}), Priority: r.Intn(api.Priorities), Base: r.Int63n(4), Cap: r.Int63n(9), Attempts: 1 + r.Intn(3), Lease: 1 + r.Int63n(6)}
	switch r.Intn(4) {
	case 0:
		s.Cron, s.Catch = pick(r, []string{"* * * * *", "*/3 * * * *", "0 * * * *"}), 1+r.Intn(3)
	case 1:
		s.Delay = r.Int63n(8)
	case 2:
		for range r.Intn(4) {
			s.Deps = append(s.Deps, pick(r, names()))
		}
		slices.Sort(s.Deps)
		s.Deps = slices.Compact(s.Deps)
	}
	return s
}

// chanceCommand is a command by chance; most of them name jobs and tokens that there are.
func chanceCommand(r *rand.Rand, s *sched.Sched) api.Command {
	c := api.Command{Kind: r.Intn(api.Kinds), Name: pick(r, names()), Worker: pick(r, []string{"w", "v", "w.1"}), Value: r.Int63() - r.Int63()}
	if r.Intn(3) == 0 {
		c.Kind = pick(r, []int{api.Submit, api.Lease})
	}
	if j, ok := s.Job(c.Name); ok {
		c.Token = j.Token
		// What may be done with its state is done more often.
		if l := map[int][]int{api.Leased: {api.Renew, api.Complete, api.Fail}, api.Dead: {api.Requeue, api.Forget}, api.Done: {api.Forget}, api.Cancelled: {api.Forget}}[j.State]; len(l) > 0 && r.Intn(3) == 0 {
			c.Kind = pick(r, l)
		}
	}
	if c.Kind == api.Submit {
		c.Spec = chanceSpec(r)
	}
	if c.Kind == api.Tick {
		c.Value = s.Now() + int64(r.Intn(1<<r.Intn(7)))
	}
	return c
}

// chanceJobs is jobs by chance of any states, with whatever else they have, that can be restored at tick 1000.
func chanceJobs(r *rand.Rand, order uint64) []api.Job {
	var l []api.Job
	for _, name := range names() {
		if r.Intn(4) == 0 {
			continue
		}
		s := chanceSpec(r)
		s.Name, s.Deps = name, nil
		for _, j := range l {
			if s.Cron == "" && r.Intn(5) == 0 {
				s.Deps = append(s.Deps, j.Spec.Name)
			}
		}
		slices.Sort(s.Deps)
		j := api.Job{Spec: s, State: r.Intn(api.States), Token: uint64(r.Intn(300)), Failed: r.Intn(4), Result: r.Int63() - r.Int63(), Created: r.Int63n(1000), Order: uint64(r.Intn(int(order) + 1)), Runs: r.Intn(3), Missed: r.Intn(3)}
		if r.Intn(2) == 0 {
			j.Due, j.Worker = 990+r.Int63n(20), pick(r, []string{"", "w", "no name", "\xff\x00"})
		}
		l = append(l, j)
	}
	r.Shuffle(len(l), func(i, j int) { l[i], l[j] = l[j], l[i] })
	return l
}

// chanceSched is a scheduler by chance.
func chanceSched(t *testing.T, r *rand.Rand) *sched.Sched {
	t.Helper()
	if r.Intn(3) == 0 {
		order := uint64(r.Intn(300))
		return given(t, 1000, 10+r.Intn(5), order, chanceJobs(r, order)...)
	}
	return fresh(t, pick(r, []int64{0, 0, 1000, last - 50}), pick(r, []int{1, 2, 5, 128}))
}

// TestGoesOn: one that is restored goes on as the one whose image it was, whenever that is.
func TestGoesOn(t *testing.T) {
	seen := map[int]int{}
	for seed := range 200 {
		r := rand.New(rand.NewSource(int64(seed)))
		s := chanceSched(t, r)
		x := again(t, s)
		for i := range 200 {
			c := chanceCommand(r, s)
			want := s.Do(c)
			if a := x.Do(c); a != want {
				t.Fatalf("seed %d, step %d: %+v: %+v, not %+v", seed, i, c, a, want)
			}
			if want.Error == api.OK {
				seen[c.Kind]++
			}
			if b := imageOf(s); !bytes.Equal(image.Of(x), b) || !bytes.Equal(image.Of(s), b) {
				t.Fatalf("seed %d, step %d: %+v: %v, %v, not %v", seed, i, c, image.Of(x), image.Of(s), b)
			}
			if r.Intn(10) == 0 {
				x = again(t, s)
			}
			if r.Intn(50) == 0 {
				s = again(t, x)
			}
		}
	}
	for kind := range api.Kinds {
		if seen[kind] < 100 {
			t.Error("too few of kind", kind, seen[kind])
		}
	}
}

// TestGoesOnApart: what becomes of one that is restored is nothing to the one whose image it was.
func TestGoesOnApart(t *testing.T) {
	for seed := range 50 {
		r := rand.New(rand.NewSource(int64(seed)))
		s := chanceSched(t, r)
		for range 50 {
			s.Do(chanceCommand(r, s))
		}
		b := image.Of(s)
		x, y := again(t, s), again(t, s)
		for range 50 {
			x.Do(chanceCommand(r, x))
		}
		if !bytes.Equal(image.Of(s), b) || !bytes.Equal(image.Of(y), b) {
			t.Fatalf("seed %d: %v, %v, not %v", seed, image.Of(s), image.Of(y), b)
		}
	}
}

// TestDelayed: leases and delays of one that is restored end when they would have ended.
func TestDelayed(t *testing.T) {
	s := fresh(t, 0, 9)
	later := job("b")
	later.Delay = 3
	for _, c := range []api.Command{{Kind: api.Submit, Spec: job("a")}, {Kind: api.Submit, Spec: later}, {Kind: api.Submit, Spec: job("c", "b")}, {Kind: api.Submit, Spec: template("d", "*/2 * * * *", 1)}, {Kind: api.Lease, Worker: "w"}} {
		if a := s.Do(c); a.Error != api.OK {
			t.Fatal(a)
		}
	}
	x := again(t, s)
	for _, step := range []struct {
		c    api.Command
		want api.Answer
	}{
		{api.Command{Kind: api.Tick, Value: 2}, api.Answer{}},
		{api.Command{Kind: api.Tick, Value: 3}, api.Answer{Value: 1}},
		{api.Command{Kind: api.Lease, Worker: "v"}, api.Answer{Name: "d.1", Token: 1, Value: 7}},
		{api.Command{Kind: api.Lease, Worker: "v"}, api.Answer{Name: "b", Token: 1, Value: 7}},
		{api.Command{Kind: api.Renew, Name: "a", Token: 1}, api.Answer{Value: 7}},
		{api.Command{Kind: api.Complete, Name: "b", Token: 1, Value: 5}, api.Answer{}},
		{api.Command{Kind: api.Complete, Name: "b", Token: 1, Value: 6}, api.Answer{Error: api.ErrDone, Value: 5}},
		{api.Command{Kind: api.Tick, Value: 7}, api.Answer{Value: 2}},
		{api.Command{Kind: api.Complete, Name: "a", Token: 1}, api.Answer{Error: api.ErrFenced}},
		{api.Command{Kind: api.Lease, Worker: "v"}, api.Answer{Name: "c", Token: 1, Value: 11}},
	} {
		x = again(t, x)
		if a := x.Do(step.c); a != step.want {
			t.Errorf("%+v: %+v, not %+v", step.c, a, step.want)
		}
	}
}

// TestAnyBytes: images with some of their bytes others, and bytes by chance, against the model.
func TestAnyBytes(t *testing.T) {
	r := rand.New(rand.NewSource(19))
	count := map[api.Errno]int{}
	s := chanceSched(t, r)
	for i := range 60000 {
		s.Do(chanceCommand(r, s))
		if i%50 == 0 {
			s = chanceSched(t, r)
		}
		b := imageOf(s)
		switch r.Intn(7) {
		case 0, 1:
			b[r.Intn(len(b))] = byte(r.Intn(256))
		case 2:
			b = b[:r.Intn(len(b))]
		case 3:
			b = append(b, byte(r.Intn(256)))
		case 4:
			jobs := slices.Collect(s.Jobs())
			r.Shuffle(len(jobs), func(i, j int) { jobs[i], jobs[j] = jobs[j], jobs[i] })
			b = imageBytes(s.Now()-r.Int63n(2)*(1<<r.Intn(50)), uint64(s.Each())<<r.Intn(4), s.Order(), jobs...)
		case 5:
			b = make([]byte, r.Intn(40))
			for i := range b {
				b[i] = byte(r.Intn(256) >> r.Intn(9))
			}
		}
		count[reads(t, b)]++
	}
	for _, e := range []api.Errno{api.OK, api.ErrArg, api.ErrForm, api.ErrShort, api.ErrLong} {
		if count[e] < 500 {
			t.Error("too few of", strconv.Itoa(int(e)), count[e])
		}
	}
}
