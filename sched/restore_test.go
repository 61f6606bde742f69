package sched_test

import (
	"math"
	"slices"
	"strconv"
	"strings"
	"testing"

	"compline/api"
	"compline/sched"
)

func TestNew(t *testing.T) {
	for _, x := range []struct {
		now  int64
		each int
		e    api.Errno
	}{
		{0, 0, api.OK}, {0, 128, api.OK}, {last, 0, api.OK}, {last, 128, api.OK}, {77, 5, api.OK},
		{-1, 5, api.ErrArg}, {last + 1, 5, api.ErrArg}, {math.MinInt64, 5, api.ErrArg}, {math.MaxInt64, 5, api.ErrArg},
		{0, -1, api.ErrArg}, {0, 129, api.ErrArg}, {0, math.MinInt, api.ErrArg}, {0, math.MaxInt, api.ErrArg},
		{-1, -1, api.ErrArg}, {last + 1, 129, api.ErrArg},
	} {
		s, e := sched.New(x.now, x.each)
		if e != x.e || (s != nil) != (e == api.OK) {
			t.Errorf("New(%d, %d): %v, %d, not %d", x.now, x.each, s, e, x.e)
		}
		if s != nil {
			holds(t, "new", s, newModel(x.now, x.each))
		}
		s, e = sched.Restore(x.now, x.each, 7, nil)
		if e != x.e || (s != nil) != (e == api.OK) {
			t.Errorf("Restore(%d, %d): %v, %d, not %d", x.now, x.each, s, e, x.e)
		}
		if s != nil {
			m := newModel(x.now, x.each)
			m.order = 7
			holds(t, "restored", s, m)
		}
		// Ahead of any ErrForm.
		if s, e := sched.Restore(x.now, x.each, 0, []api.Job{{}}); s != nil || e == api.OK || (e == api.ErrArg) != (x.e == api.ErrArg) {
			t.Errorf("Restore(%d, %d) of a job that may not be: %v, %d", x.now, x.each, s, e)
		}
	}
}

// commands is one of each kind, and of kinds that there aren't.
func commands() []api.Command {
	var l []api.Command
	for kind := -1; kind <= api.Kinds; kind++ {
		l = append(l, api.Command{Kind: kind, Name: "a", Worker: "w", Token: 1, Value: 1, Spec: job("a")}, api.Command{Kind: kind})
	}
	return append(l, api.Command{Kind: math.MaxInt}, api.Command{Kind: math.MinInt})
}

func TestNil(t *testing.T) {
	var s *sched.Sched
	for _, c := range commands() {
		if a := s.Do(c); a != (api.Answer{Error: api.ErrArg}) {
			t.Errorf("%+v: %+v", c, a)
		}
	}
	if s.Now() != 0 || s.Each() != 0 || s.Order() != 0 || s.Len() != 0 || s.Copy() != nil {
		t.Error(s.Now(), s.Each(), s.Order(), s.Len(), s.Copy())
	}
	for _, name := range []string{"", "a"} {
		if j, ok := s.Job(name); ok || !alike(j, api.Job{}) {
			t.Error(j, ok)
		}
	}
	for j := range s.Jobs() {
		t.Error(j)
	}
	s.Jobs()(nil)
}

// TestZero: of one that isn't of New nothing is promised, but that each call answers.
func TestZero(t *testing.T) {
	s := &sched.Sched{}
	for range 2 {
		for _, c := range commands() {
			s.Do(c)
		}
		if s.Now() != 0 || s.Each() != 0 || s.Order() != 0 || s.Len() != 0 {
			t.Error(s.Now(), s.Each(), s.Order(), s.Len())
		}
		for j := range s.Jobs() {
			t.Error(j)
		}
		s.Job("a")
		s = s.Copy()
	}
}

// of is a job with a spec and a state.
func of(s api.Spec, state int) api.Job { return api.Job{Spec: s, State: state} }

// refused is that such jobs can't be restored.
func refused(t *testing.T, what string, each int, order uint64, jobs ...api.Job) {
	t.Helper()
	if s, e := sched.Restore(10, each, order, jobs); s != nil || e != api.ErrForm {
		t.Errorf("%s: %v, %d", what, s, e)
	}
}

// TestRestoreJob: one job, each field at its ends, and beyond.
func TestRestoreJob(t *testing.T) {
	ok := func(change func(j *api.Job)) {
		t.Helper()
		for state := range api.States {
			j := api.Job{Spec: job("a"), State: state, Order: 3}
			change(&j)
			restored(t, 10, 1, 7, j)
		}
	}
	no := func(what string, change func(j *api.Job)) {
		t.Helper()
		for state := range api.States {
			j := api.Job{Spec: job("a"), State: state, Order: 3}
			change(&j)
			refused(t, what, 1, 7, j)
		}
	}
	ok(func(j *api.Job) {})
	for _, n := range []int64{0, 1, 9, 10, 11, last} {
		ok(func(j *api.Job) { j.Due = n })
	}
	for _, n := range []int64{-1, last + 1, math.MinInt64, math.MaxInt64} {
		no("a Due", func(j *api.Job) { j.Due = n })
	}
	for _, n := range []int{0, 1, 16, math.MaxInt} {
		ok(func(j *api.Job) { j.Failed = n })
		ok(func(j *api.Job) { j.Runs = n })
		ok(func(j *api.Job) { j.Missed = n })
		ok(func(j *api.Job) { j.Created = int64(n) })
	}
	for _, n := range []int{-1, math.MinInt} {
		no("Failed", func(j *api.Job) { j.Failed = n })
		no("Runs", func(j *api.Job) { j.Runs = n })
		no("Missed", func(j *api.Job) { j.Missed = n })
		no("Created", func(j *api.Job) { j.Created = int64(n) })
	}
	for _, n := range []int64{0, 1, -1, math.MaxInt64, math.MinInt64} {
		ok(func(j *api.Job) { j.Result = n })
	}
	for _, n := range []uint64{0, 1, 1 << 63, math.MaxUint64} {
		ok(func(j *api.Job) { j.Token = n })
	}
	for _, n := range []uint64{0, 6, 7} {
		ok(func(j *api.Job) { j.Order = n })
	}
	for _, n := range []uint64{8, 1 << 63, math.MaxUint64} {
		no("an Order", func(j *api.Job) { j.Order = n })
	}
	for _, worker := range []string{"", "w", "no name", "\xff", strings.Repeat("x", 1000)} {
		ok(func(j *api.Job) { j.Worker = worker })
	}
	for _, state := range []int{-1, api.States, api.States + 1, math.MaxInt, math.MinInt} {
		no("a state", func(j *api.Job) { j.State = state })
	}
	ok(func(j *api.Job) { j.Spec = template("a", "* * * * *", 1) })
	ok(func(j *api.Job) { j.Spec = later("a", 7) })
	for _, change := range []func(s *api.Spec){
		func(s *api.Spec) { *s = api.Spec{} },
		func(s *api.Spec) { s.Name = "" },
		func(s *api.Spec) { s.Name = "A" },
		func(s *api.Spec) { s.Tenant = "" },
		func(s *api.Spec) { s.Lease = 0 },
		func(s *api.Spec) { s.Attempts = -1 },
		func(s *api.Spec) { s.Priority = 4 },
		func(s *api.Spec) { s.Delay = -1 },
		func(s *api.Spec) { s.Catch = 1 },
		func(s *api.Spec) { s.Cron, s.Catch = "x", 1 },
	} {
		no("a spec", func(j *api.Job) { change(&j.Spec) })
	}
}

// TestRestoreJobs: what several jobs may be together.
func TestRestoreJobs(t *testing.T) {
	refused(t, "a name twice", 9, 0, of(job("a"), api.Done), of(job("a"), api.Done))
	refused(t, "a name twice", 9, 0, of(job("a"), api.Done), of(job("b"), api.Ready), of(job("a"), api.Dead))
	for state := range api.States {
		refused(t, "Deps that aren't jobs", 9, 0, of(job("a", "b"), state))
		refused(t, "Deps that aren't jobs", 9, 0, of(job("a", "b", "c"), state), of(job("b"), api.Done))
		refused(t, "one on itself", 9, 0, of(job("a", "a"), state))
		refused(t, "one on itself", 9, 0, of(job("b"), state), of(job("a", "a", "b"), state))
		refused(t, "two on each other", 9, 0, of(job("a", "b"), state), of(job("b", "a"), state))
		refused(t, "three in a loop", 9, 0, of(job("a", "b"), state), of(job("b", "c", "d"), state), of(job("c", "a"), state), of(job("d"), state))
		restored(t, 10, 9, 0, of(job("a", "b", "c"), state), of(job("b", "c"), state), of(job("c"), state))
	}
	refused(t, "falling Deps", 9, 0, of(job("a"), api.Done), of(job("b"), api.Done), of(job("c", "b", "a"), api.Done))

	// Just jobs that aren't final count, each tenant's by themselves.
	for state := range api.States {
		a, b := of(job("a"), state), of(job("b"), state)
		if state == api.Done || state == api.Dead || state == api.Cancelled {
			restored(t, 10, 0, 0, a, b)
			continue
		}
		refused(t, "too many of a tenant", 1, 0, a, b)
		refused(t, "one of a tenant that may have none", 0, 0, a)
		restored(t, 10, 2, 0, a, b)
		b.Spec.Tenant = "u"
		restored(t, 10, 1, 0, a, b)
		p := restored(t, 10, 1, 0, a, b, of(job("c"), api.Done))
		p.submit(job("d"), api.ErrQuota)
		p.cancel("a", api.OK)
		p.submit(job("d"), api.OK)
	}

	var many []api.Job
	for i := range api.MaxJobs {
		many = append(many, of(job("j"+strconv.Itoa(i)), i%api.States))
	}
	p := restored(t, 10, api.MaxJobs, 0, many...)
	p.submit(job("more"), api.ErrFull)
	refused(t, "too many jobs", api.MaxJobs, 0, append(many, of(job("more"), api.Done))...)
}

// TestRestoredStates: what a job's state comes to doesn't hang on how it came about.
func TestRestoredStates(t *testing.T) {
	p := restored(t, 10, 20, 5,
		api.Job{Spec: job("c"), State: api.Ready, Order: 5},
		api.Job{Spec: job("b"), State: api.Ready, Order: 2, Token: 8, Due: 3, Worker: "x"},
		api.Job{Spec: job("a"), State: api.Ready, Order: 5},
		api.Job{Spec: job("l"), State: api.Leased, Token: 4, Due: 20, Worker: "w", Failed: 1},
		api.Job{Spec: job("m", "l"), State: api.Waiting},
		api.Job{Spec: job("n"), State: api.Leased, Token: 4, Due: 9, Worker: "w"}, // its lease has ended already
		api.Job{Spec: job("o"), State: api.Delayed, Due: 10, Worker: "x"},
		api.Job{Spec: job("q"), State: api.Delayed, Due: 11},
		api.Job{Spec: job("r", "s"), State: api.Waiting, Due: 4, Worker: "x"}, // nothing wakes it
		api.Job{Spec: job("s"), State: api.Done, Result: 6, Token: 3, Due: 7, Worker: "x"},
	)
	p.do(api.Command{Kind: api.Renew, Name: "n", Token: 4}, api.Answer{Value: 13})
	p.tick(10, 1)
	p.orders(6, "o")
	p.lease("b", 9, 13)
	p.lease("a", 1, 13)
	p.lease("c", 1, 13)
	p.lease("o", 1, 13)
	p.do(api.Command{Kind: api.Fail, Name: "s", Token: 3}, api.Answer{Error: api.ErrDone, Value: 6})
	p.fail("l", 4, 2)
	p.is("m", api.Dead, 0)
	p.tick(12, 1)
	p.is("q", api.Ready, 0)
	p.tick(13, 5)
	if j, _ := p.s.Job("r"); j.State != api.Waiting || j.Due != 4 || j.Worker != "x" {
		t.Errorf("%+v", j)
	}
	p.cancel("r", api.OK)
	p.is("r", api.Cancelled, 0)
	p.forget("s", api.OK)
	// One that failed more often than it may is tried on.
	p = restored(t, 0, 1, 5, api.Job{Spec: job("a"), State: api.Leased, Failed: 2, Token: 1, Due: 3})
	p.fail("a", 1, 3)
	p.is("a", api.Delayed, 5)
}

// TestRestoredTemplate: its state tells that it is one, its expression when instances are due.
func TestRestoredTemplate(t *testing.T) {
	p := restored(t, 10, 20, 5, of(job("a"), api.Template), of(template("b", "* * * * *", 1), api.Ready), of(template("d", "* * * * *", 1), api.Dead), at(4, 1))
	p.tick(11, 0)
	p.counts("a", 0, 0)
	p.counts("c", 5, 1)
	p.is("c.6", api.Ready, 0)
	p.lease("b", 1, 14)
	p.requeue("d", api.OK)
	p.is("d", api.Ready, 0)
}

// TestEnds: numbers that can't be one more.
func TestEnds(t *testing.T) {
	s, e := sched.Restore(0, 9, math.MaxUint64, []api.Job{
		{Spec: job("b"), State: api.Ready, Order: math.MaxUint64, Token: math.MaxUint64},
		{Spec: job("a"), State: api.Leased, Failed: math.MaxInt, Token: math.MaxUint64},
	})
	if e != api.OK {
		t.Fatal(e)
	}
	if a := s.Do(api.Command{Kind: api.Fail, Name: "a", Token: math.MaxUint64}); a != (api.Answer{Value: math.MaxInt}) {
		t.Errorf("%+v", a)
	}
	s.Do(api.Command{Kind: api.Tick, Value: 5})
	if j, _ := s.Job("a"); j.State != api.Ready || j.Order != math.MaxUint64 || s.Order() != math.MaxUint64 {
		t.Errorf("%+v, %d", j, s.Order())
	}
	for _, name := range []string{"a", "b"} {
		if a := s.Do(api.Command{Kind: api.Lease, Worker: "w"}); a.Error != api.OK || a.Name != name {
			t.Errorf("%+v", a)
		}
		if a := s.Do(api.Command{Kind: api.Complete, Name: name, Token: math.MaxUint64}); a != (api.Answer{Error: api.ErrFenced}) {
			t.Errorf("%+v", a)
		}
	}
	if _, e := sched.Restore(s.Now(), s.Each(), s.Order(), slices.Collect(s.Jobs())); e != api.OK {
		t.Error(e)
	}
}

// TestCopy: one apart.
func TestCopy(t *testing.T) {
	p := states(t)
	q := &pair{t, p.s.Copy(), p.m.copy()}
	holds(t, "a copy", q.s, q.m)
	ahead := p.m.copy()
	for _, c := range []api.Command{
		{Kind: api.Submit, Spec: job("x", "done")}, {Kind: api.Lease, Worker: "v"}, {Kind: api.Complete, Name: "leased", Token: 2},
		{Kind: api.Requeue, Name: "dead"}, {Kind: api.Cancel, Name: "template"}, {Kind: api.Forget, Name: "cancelled"}, {Kind: api.Tick, Value: 500000},
	} {
		q.same(c)
		holds(t, "the copy went on", q.s, q.m)
		holds(t, "its first one", p.s, ahead)
	}
	ahead = q.m.copy()
	p.forget("cancelled", api.OK)
	p.cancel("ready", api.OK)
	p.tick(20, 2)
	p.just("delayed")
	holds(t, "the copy", q.s, ahead)
}

// TestKept: what is handed in isn't changed or kept, and answers are new memory.
func TestKept(t *testing.T) {
	p := fresh(t, 0, 9)
	for _, name := range []string{"a", "b"} {
		p.submit(job(name), api.OK)
	}
	deps := []string{"a", "b", "spare", "room"}
	p.submit(job("c", deps[:2]...), api.OK)
	deps[1] = "z"
	holds(t, "Submit's Deps were changed", p.s, p.m)
	deps[1] = "b"

	spoil := func(l []string) {
		if len(l) > 0 {
			l[0] = "spoiled"
		}
		_ = append(l, "more")
	}
	jobs := p.s.Jobs()
	for range 2 {
		l := slices.Collect(jobs)
		if !slices.EqualFunc(l, p.m.all(), alike) {
			t.Fatalf("%+v", l)
		}
		for _, j := range l {
			spoil(j.Spec.Deps)
		}
	}
	for range 2 {
		j, _ := p.s.Job("c")
		spoil(j.Spec.Deps)
	}
	holds(t, "answers were changed", p.s, p.m)

	// Forget takes a job out of Deps: neither out of those that were handed in, nor of those that were told.
	given := []api.Job{of(job("a"), api.Dead), of(job("b"), api.Done), of(job("c", deps[:2]...), api.Dead)}
	q := restored(t, 0, 9, 0, given...)
	told, _ := q.s.Job("c")
	c := &pair{t, q.s.Copy(), q.m.copy()}
	q.forget("a", api.OK)
	if !slices.Equal(deps, []string{"a", "b", "spare", "room"}) || !slices.Equal(told.Spec.Deps, deps[:2]) {
		t.Error(deps, told.Spec.Deps)
	}
	holds(t, "a copy", c.s, c.m)
	clear(deps)
	clear(given)
	holds(t, "Restore's jobs were changed", q.s, q.m)
	holds(t, "Restore's jobs were changed, of a copy", c.s, c.m)
}

// TestJobs: an iterator ends where it is told to, and the scheduler may be changed while it is gone through.
func TestJobs(t *testing.T) {
	p := states(t)
	want := p.m.all()
	jobs := p.s.Jobs()
	n := 0
	for j := range jobs {
		if !alike(j, want[n]) {
			t.Errorf("%+v, not %+v", j, want[n])
		}
		if n++; n == 3 {
			break
		}
	}
	jobs(nil)
	n = 0
	for j := range jobs {
		if !alike(j, want[n]) {
			t.Errorf("%+v, not %+v", j, want[n])
		}
		n++
		p.same(api.Command{Kind: api.Cancel, Name: j.Spec.Name})
		p.same(api.Command{Kind: api.Forget, Name: j.Spec.Name})
	}
	if n != len(want) {
		t.Error(n, "are told")
	}
	holds(t, "gone through", p.s, p.m)
}
