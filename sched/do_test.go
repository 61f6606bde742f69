package sched_test

import (
	"math"
	"slices"
	"strconv"
	"strings"
	"testing"

	"compline/api"
)

// states is a pair with a job of each state, at tick 10: each job's name is its state's. Those that were leased have token 1.
func states(t *testing.T) *pair {
	p := fresh(t, 0, api.MaxJobs)
	for _, name := range []string{"done", "dead", "leased"} {
		p.submit(job(name), api.OK)
		p.lease(name, 1, 3)
	}
	p.complete("done", 1, -77)
	p.fail("dead", 1, 1)
	p.tick(2, 1) // dead is ready once more
	p.lease("dead", 2, 5)
	p.fail("dead", 2, 2)
	p.renew("leased", 1, 5)
	p.tick(4, 0)
	p.renew("leased", 1, 7)
	p.tick(7, 1) // leased has failed, and waits
	p.tick(9, 1)
	p.lease("leased", 2, 12)
	p.submit(later("delayed", 5), api.OK)
	p.submit(job("cancelled"), api.OK)
	p.cancel("cancelled", api.OK)
	p.submit(job("waiting", "delayed"), api.OK)
	p.submit(template("template", "0 0 1 1 *", 1), api.OK)
	p.submit(job("ready"), api.OK)
	p.tick(10, 0)
	p.is("waiting", api.Waiting, 0)
	p.is("delayed", api.Delayed, 14)
	p.is("ready", api.Ready, 0)
	p.is("leased", api.Leased, 12)
	p.is("done", api.Done, 0)
	p.is("dead", api.Dead, 0)
	p.is("cancelled", api.Cancelled, 0)
	p.is("template", api.Template, 0)
	return p
}

// stateNames is the names of states' jobs, in the order of the states.
func stateNames() []string {
	return []string{"waiting", "delayed", "ready", "leased", "done", "dead", "cancelled", "template"}
}

func TestExample(t *testing.T) {
	p := fresh(t, 0, 1)
	p.submit(job("a"), api.OK)
	p.lease("a", 1, 3)
	p.complete("a", 1, 9)
	p.do(api.Command{Kind: api.Complete, Name: "a", Token: 1, Value: 8}, api.Answer{Error: api.ErrDone, Value: 9})
}

// TestNothing: what just other kinds have doesn't count.
func TestNothing(t *testing.T) {
	p := states(t)
	for _, c := range []api.Command{{}, {Name: "ready", Worker: "w", Token: 1, Value: 20, Spec: job("x")}} {
		p.do(c, api.Answer{})
	}
}

func TestKinds(t *testing.T) {
	p := states(t)
	for _, kind := range []int{-1, api.Kinds, api.Kinds + 1, math.MaxInt, math.MinInt} {
		for _, c := range []api.Command{{}, {Name: "ready", Worker: "w", Token: 2, Value: 20, Spec: job("x")}, {Name: "leased", Token: 2}, {Spec: api.Spec{}}} {
			c.Kind = kind
			p.do(c, api.Answer{Error: api.ErrArg})
		}
	}
}

// TestSubmit: the state in which a job begins.
func TestSubmit(t *testing.T) {
	for _, x := range []struct {
		s     api.Spec
		state int
		due   int64
	}{
		{job("x"), api.Ready, 0},
		{later("x", 1), api.Delayed, 11},
		{later("x", api.MaxSpan), api.Delayed, 10 + api.MaxSpan},
		{job("x", "done"), api.Ready, 0},
		{later("x", 4, "done"), api.Delayed, 14},
		{job("x", "waiting"), api.Waiting, 0},
		{job("x", "delayed"), api.Waiting, 0},
		{job("x", "ready"), api.Waiting, 0},
		{job("x", "leased"), api.Waiting, 0},
		{job("x", "template"), api.Waiting, 0},
		{later("x", 4, "ready"), api.Waiting, 0},
		{job("x", "done", "leased"), api.Waiting, 0},
		{job("x", "leased", "ready", "template"), api.Waiting, 0},
		{job("x", "dead"), api.Dead, 0},
		{job("x", "cancelled"), api.Dead, 0},
		{later("x", 4, "dead"), api.Dead, 0},
		{job("x", "cancelled", "done"), api.Dead, 0},
		{job("x", "cancelled", "leased"), api.Dead, 0},
		{job("x", "dead", "delayed", "waiting"), api.Dead, 0},
		{job("x", "cancelled", "dead", "done"), api.Dead, 0},
		{template("x", "* * * * *", 16), api.Template, 0},
	} {
		p := states(t)
		order := p.s.Order()
		p.submit(x.s, api.OK)
		p.is("x", x.state, x.due)
		j, _ := p.s.Job("x")
		if x.state == api.Ready {
			order++
			p.orders(order, "x")
		} else if j.Order != 0 {
			t.Errorf("%+v", j)
		}
		if p.s.Order() != order || j.Created != 10 || j.Token != 0 || j.Failed != 0 || j.Result != 0 || j.Runs != 0 || j.Missed != 0 {
			t.Errorf("%+v of order %d", j, p.s.Order())
		}
		if !alike(api.Job{Spec: x.s}, api.Job{Spec: j.Spec}) {
			t.Errorf("%+v, not %+v", j.Spec, x.s)
		}
	}
}

// TestSubmitEnd: no delay goes beyond the last tick.
func TestSubmitEnd(t *testing.T) {
	for _, now := range []int64{last, last - 1, last - 7} {
		p := fresh(t, now, 4)
		p.submit(later("a", 7), api.OK)
		p.is("a", api.Delayed, last)
		p.submit(later("b", api.MaxSpan), api.OK)
		p.is("b", api.Delayed, last)
		p.submit(later("c", 1), api.OK)
		p.is("c", api.Delayed, min(now+1, last))
		p.tick(last, 3)
		if now+1 < last {
			p.orders(1, "c", "a", "b")
		} else {
			p.orders(1, "a", "b", "c")
		}
	}
}

// TestSubmitErrors: each error, with those behind it beside it.
func TestSubmitErrors(t *testing.T) {
	p := fresh(t, 0, 2)
	p.submit(job("a"), api.OK)
	p.submit(job("b"), api.OK) // the tenant has as many as it may
	bad := func(change func(s *api.Spec), want api.Errno) {
		t.Helper()
		// ErrSame, ErrNone and ErrQuota would hold too.
		s := job("a", "no-job")
		change(&s)
		p.submit(s, want)
	}
	bad(func(s *api.Spec) { s.Name = "" }, api.ErrName)
	bad(func(s *api.Spec) { s.Name = "A" }, api.ErrName)
	bad(func(s *api.Spec) { s.Tenant = "t t" }, api.ErrName)
	bad(func(s *api.Spec) { s.Deps = []string{""} }, api.ErrName)
	bad(func(s *api.Spec) { s.Lease = 0 }, api.ErrRange)
	bad(func(s *api.Spec) { s.Attempts = 0 }, api.ErrRange)
	bad(func(s *api.Spec) { s.Attempts = math.MinInt }, api.ErrRange)
	bad(func(s *api.Spec) { s.Delay = math.MaxInt64 }, api.ErrRange)
	bad(func(s *api.Spec) { s.Base = -1 }, api.ErrRange)
	bad(func(s *api.Spec) { s.Cap = api.MaxSpan + 1 }, api.ErrRange)
	bad(func(s *api.Spec) { s.Priority = api.Priorities }, api.ErrRange)
	bad(func(s *api.Spec) { s.Deps = []string{"b", "a"} }, api.ErrRange)
	bad(func(s *api.Spec) { s.Deps = strings.Split("a,b,c,d,e,f,g,h,i", ",") }, api.ErrRange)
	bad(func(s *api.Spec) { s.Catch = 1 }, api.ErrArg)
	bad(func(s *api.Spec) { s.Cron = "*" }, api.ErrForm)
	bad(func(s *api.Spec) { s.Cron = strings.Repeat("*", 129) }, api.ErrLong)
	bad(func(s *api.Spec) { s.Cron = "60 * * * *" }, api.ErrRange)
	bad(func(s *api.Spec) { s.Cron = "* * * * *" }, api.ErrRange)
	bad(func(s *api.Spec) { s.Cron, s.Catch = "* * * * *", 1 }, api.ErrArg)
	p.submit(api.Spec{}, api.ErrName)
	p.submit(job("a", "no-job"), api.ErrSame)
	p.submit(job("a"), api.ErrSame)
	p.submit(job("c", "no-job"), api.ErrNone)
	p.submit(job("c", "a", "b", "no-job"), api.ErrNone)
	p.submit(job("c", "c"), api.ErrNone)
	p.submit(job("c"), api.ErrQuota)
	p.submit(job("c", "a"), api.ErrQuota)
	p.submit(template("c", "* * * * *", 1), api.ErrQuota)
	// What is refused has left nothing behind.
	s := job("c", "a")
	s.Tenant = "u"
	p.submit(s, api.OK)
}

// TestFull: no more than 128 jobs, whatever became of them.
func TestFull(t *testing.T) {
	p := fresh(t, 0, api.MaxJobs)
	name := func(i int) string { return "j" + strconv.Itoa(i) }
	for i := range api.MaxJobs {
		p.submit(job(name(i)), api.OK)
	}
	more := job("more")
	p.submit(more, api.ErrFull) // ahead of ErrQuota
	p.submit(job("j0"), api.ErrSame)
	p.submit(job("more", "no-job"), api.ErrNone)
	more.Tenant = "u"
	p.submit(more, api.ErrFull)
	for i := range 10 {
		p.cancel(name(i), api.OK)
	}
	p.submit(more, api.ErrFull)
	p.forget("j0", api.OK)
	p.submit(more, api.OK)
	p.submit(job("j0"), api.ErrFull)
	p.forget("j1", api.OK)
	p.submit(job("j1"), api.OK)
}

// TestQuota: just jobs that aren't Done, Dead or Cancelled count, each tenant's by themselves.
func TestQuota(t *testing.T) {
	p := fresh(t, 0, 3)
	other := job("u")
	other.Tenant = "u"
	p.submit(other, api.OK)
	p.submit(job("a"), api.OK)
	p.submit(job("b", "a"), api.OK)
	p.submit(template("c", "0 0 1 1 *", 1), api.OK)
	p.submit(job("d"), api.ErrQuota)
	p.lease("u", 1, 3)
	p.lease("a", 1, 3)
	p.submit(job("d"), api.ErrQuota) // a leased one counts
	p.complete("a", 1, 0)
	p.submit(later("d", 9), api.OK)
	p.submit(job("e"), api.ErrQuota) // b, c, d: ready, a template, delayed
	p.cancel("c", api.OK)
	p.submit(job("e", "b"), api.OK)
	p.submit(job("f"), api.ErrQuota)
	p.lease("b", 1, 3)
	p.fail("b", 1, 1)
	p.submit(job("f"), api.ErrQuota) // it will be tried once more
	p.tick(2, 1)
	p.lease("b", 2, 5)
	p.fail("b", 2, 2) // b and e are dead
	p.is("e", api.Dead, 0)
	p.submit(job("f"), api.OK)
	p.submit(job("g", "b"), api.OK) // dead at once, so it doesn't count
	p.submit(job("h", "c"), api.OK)
	p.is("g", api.Dead, 0)
	p.submit(job("i"), api.OK)
	p.submit(job("j", "b"), api.ErrQuota) // though it would be dead at once
	p.forget("e", api.OK)
	p.submit(job("j"), api.ErrQuota)
	p.cancel("i", api.OK)
	p.submit(job("j"), api.OK)
}

func TestQuotaEnds(t *testing.T) {
	p := fresh(t, 0, 0)
	p.submit(job("a"), api.ErrQuota)
	p.submit(template("a", "* * * * *", 1), api.ErrQuota)
	p = fresh(t, 0, 1)
	for i := range api.MaxJobs {
		s := job("j" + strconv.Itoa(i))
		s.Tenant = "t" + strconv.Itoa(i) // more tenants than something may be said of
		p.submit(s, api.OK)
	}
}

// TestLease: by priorities, of these by orders.
func TestLease(t *testing.T) {
	p := fresh(t, 5, 20)
	p.none()
	for i, priority := range []int{3, 1, 2, 1, 0, 3, 0} {
		s := job(string(rune('g' - i)))
		s.Priority, s.Lease = priority, int64(i+1)
		p.submit(s, api.OK)
	}
	p.lease("c", 1, 10)
	p.lease("a", 1, 12)
	p.lease("f", 1, 7)
	urgent := job("z")
	urgent.Priority = 0
	p.submit(urgent, api.OK)
	p.lease("z", 1, 8)
	p.lease("d", 1, 9)
	p.lease("e", 1, 8)
	p.lease("g", 1, 6)
	p.lease("b", 1, 11)
	p.none()
}

// TestLeaseOrder: who becomes ready once more is behind those that were ready meanwhile.
func TestLeaseOrder(t *testing.T) {
	p := fresh(t, 0, 20)
	s := job("a")
	s.Base, s.Attempts = 0, 3
	p.submit(s, api.OK)
	p.submit(job("b"), api.OK)
	p.lease("a", 1, 3)
	p.submit(job("c"), api.OK)
	p.fail("a", 1, 1)
	p.orders(2, "b", "c", "a")
	p.lease("b", 1, 3)
	p.lease("c", 1, 3)
	p.lease("a", 2, 3)
	p.fail("a", 2, 2)
	p.lease("a", 3, 3)
	if p.s.Order() != 5 {
		t.Error(p.s.Order())
	}
}

func TestLeaseErrors(t *testing.T) {
	p := states(t)
	for _, worker := range []string{"", "W", ".w", "1w", "w w", "w\x00", "ä", strings.Repeat("w", 25)} {
		p.do(api.Command{Kind: api.Lease, Worker: worker}, api.Answer{Error: api.ErrName})
	}
	long := strings.Repeat("w", 24)
	p.do(api.Command{Kind: api.Lease, Worker: long, Name: "delayed", Token: 9, Value: 7, Spec: job("x")}, api.Answer{Name: "ready", Token: 1, Value: 13})
	if j, _ := p.s.Job("ready"); j.Worker != long {
		t.Errorf("%+v", j)
	}
	p.none()
	p.do(api.Command{Kind: api.Lease, Worker: "W"}, api.Answer{Error: api.ErrName})
}

// TestLeaseEnd: no lease lasts beyond the last tick.
func TestLeaseEnd(t *testing.T) {
	p := fresh(t, last-1, 3)
	s := job("a")
	s.Lease = api.MaxSpan
	p.submit(s, api.OK)
	p.submit(job("b"), api.OK)
	p.lease("a", 1, last)
	p.renew("a", 1, last)
	p.tick(last, 1) // it failed, and waits until then
	p.is("a", api.Delayed, last)
	p.lease("b", 1, last)
	p.renew("b", 1, last)
	p.tick(last, 2)
	p.orders(3, "a")
	p.is("b", api.Delayed, last)
	p.lease("a", 2, last)
	p.tick(last, 2)
	p.is("a", api.Dead, 0)
	p.orders(4, "b")
}

func TestRenew(t *testing.T) {
	p := fresh(t, 0, 3)
	p.submit(job("a"), api.OK)
	p.lease("a", 1, 3)
	p.renew("a", 1, 3)
	p.tick(2, 0)
	p.renew("a", 1, 5)
	p.tick(4, 0)
	p.is("a", api.Leased, 5)
	p.tick(5, 1)
	p.is("a", api.Delayed, 7)
	p.do(api.Command{Kind: api.Renew, Name: "a", Token: 1}, api.Answer{Error: api.ErrFenced})
}

// TestReportErrors: Renew, Complete and Fail of a job of each state, with its token and with others.
func TestReportErrors(t *testing.T) {
	for _, kind := range []int{api.Renew, api.Complete, api.Fail} {
		p := states(t)
		report := func(name string, token uint64, want api.Answer) {
			t.Helper()
			p.do(api.Command{Kind: kind, Name: name, Token: token, Value: 5, Worker: "w"}, want)
		}
		for _, token := range []uint64{0, 1, 2, math.MaxUint64} {
			for _, name := range []string{"", "no-job", "A", "Leased", strings.Repeat("x", 300)} {
				report(name, token, api.Answer{Error: api.ErrNone})
			}
			for _, name := range []string{"waiting", "delayed", "ready", "dead", "cancelled", "template"} {
				report(name, token, api.Answer{Error: api.ErrFenced})
			}
			if token != 1 {
				report("done", token, api.Answer{Error: api.ErrFenced})
			}
			if token != 2 {
				report("leased", token, api.Answer{Error: api.ErrFenced})
			}
		}
		report("done", 1, api.Answer{Error: api.ErrDone, Value: -77})
		switch kind {
		case api.Renew:
			report("leased", 2, api.Answer{Value: 13})
		case api.Complete:
			report("leased", 2, api.Answer{})
			report("leased", 2, api.Answer{Error: api.ErrDone, Value: 5})
			report("leased", 1, api.Answer{Error: api.ErrFenced})
		case api.Fail:
			report("leased", 2, api.Answer{Value: 2})
			report("leased", 2, api.Answer{Error: api.ErrFenced})
		}
	}
}

// TestResults: any number is one.
func TestResults(t *testing.T) {
	for _, n := range []int64{0, 1, -1, math.MaxInt64, math.MinInt64} {
		p := fresh(t, 0, 3)
		p.submit(job("a"), api.OK)
		p.lease("a", 1, 3)
		p.complete("a", 1, n)
		p.do(api.Command{Kind: api.Renew, Name: "a", Token: 1}, api.Answer{Error: api.ErrDone, Value: n})
	}
}

// TestComplete: those that wait go on, rising by names, if all that they stand on is done.
func TestComplete(t *testing.T) {
	p := fresh(t, 0, 20)
	p.submit(job("m"), api.OK)
	p.submit(job("n"), api.OK)
	p.submit(job("z", "m"), api.OK)
	p.submit(job("b", "m"), api.OK)
	p.submit(job("a", "m", "n"), api.OK)
	p.submit(later("c", 4, "m"), api.OK)
	p.submit(job("d", "b"), api.OK)
	p.submit(job("e", "m"), api.OK)
	p.cancel("e", api.OK)
	p.lease("m", 1, 3)
	p.lease("n", 1, 3)
	p.tick(1, 0)
	p.complete("m", 1, 0)
	p.orders(3, "b", "z")
	p.is("a", api.Waiting, 0)
	p.is("c", api.Delayed, 5)
	p.is("d", api.Waiting, 0)
	p.is("e", api.Cancelled, 0)
	p.complete("n", 1, 0)
	p.orders(5, "a")
	p.tick(5, 1)
	p.orders(6, "c")
	if p.s.Order() != 6 {
		t.Error(p.s.Order())
	}
}

// TestFail: later and later, and dead in the end, with all that wait for it.
func TestFail(t *testing.T) {
	p := fresh(t, 100, 20)
	s := job("m")
	s.Base, s.Cap, s.Attempts = 3, 20, 6
	p.submit(s, api.OK)
	p.submit(job("b", "m"), api.OK)
	p.submit(job("a", "b"), api.OK)
	p.submit(job("c", "a", "m"), api.OK)
	p.submit(job("d", "m"), api.OK)
	p.cancel("d", api.OK)
	p.submit(later("e", 1000), api.OK)
	p.submit(job("f", "e"), api.OK)
	now := int64(100)
	for i, wait := range []int64{3, 6, 12, 20, 20} {
		p.lease("m", uint64(i+1), now+3)
		p.fail("m", uint64(i+1), i+1)
		p.is("m", api.Delayed, now+wait)
		p.is("b", api.Waiting, 0)
		p.none()
		p.tick(now+wait-1, 0)
		p.tick(now+wait, 1)
		now += wait
	}
	p.lease("m", 6, now+3)
	p.fail("m", 6, 6)
	for _, name := range []string{"m", "a", "b", "c"} {
		p.is(name, api.Dead, 0)
	}
	p.is("d", api.Cancelled, 0)
	p.is("e", api.Delayed, 1100)
	p.is("f", api.Waiting, 0)
	p.tick(now+1000, 1)
	p.just("e")
}

// just is that a job alone is ready.
func (p *pair) just(name string) {
	p.t.Helper()
	if a := p.same(api.Command{Kind: api.Lease, Worker: "w"}); a.Name != name {
		p.t.Fatalf("%+v, not %s", a, name)
	}
	p.none()
}

// TestFailAtOnce: without a wait it is ready; with one attempt it is dead.
func TestFailAtOnce(t *testing.T) {
	for _, wait := range [][2]int64{{0, 5}, {5, 0}, {0, 0}} {
		p := fresh(t, 0, 20)
		s := job("a")
		s.Base, s.Cap = wait[0], wait[1]
		p.submit(s, api.OK)
		p.lease("a", 1, 3)
		p.fail("a", 1, 1)
		p.orders(2, "a")
		p.lease("a", 2, 3)
		p.fail("a", 2, 2)
		p.is("a", api.Dead, 0)
	}
	p := fresh(t, 0, 20)
	s := job("a")
	s.Attempts = 1
	p.submit(s, api.OK)
	p.lease("a", 1, 3)
	p.fail("a", 1, 1)
	p.is("a", api.Dead, 0)
}

// TestFailEnd: no wait goes beyond the last tick, however many attempts there are.
func TestFailEnd(t *testing.T) {
	p := fresh(t, last-1, 20)
	s := job("a")
	s.Base, s.Cap, s.Attempts = api.MaxSpan, api.MaxSpan, api.MaxAttempts
	p.submit(s, api.OK)
	for i := range api.MaxAttempts - 1 {
		p.lease("a", uint64(i+1), last)
		p.fail("a", uint64(i+1), i+1)
		p.is("a", api.Delayed, last)
		p.tick(last, 1)
	}
	p.lease("a", 16, last)
	p.fail("a", 16, 16)
	p.is("a", api.Dead, 0)
}

// TestCancel: each state; those that wait die, others that stand on it have ended already.
func TestCancel(t *testing.T) {
	for state, name := range stateNames() {
		p := states(t)
		want := api.OK
		if state == api.Done || state == api.Dead || state == api.Cancelled {
			want = api.ErrState
		}
		p.cancel(name, want)
		if want == api.OK {
			p.is(name, api.Cancelled, 0)
			p.cancel(name, api.ErrState)
			p.do(api.Command{Kind: api.Complete, Name: name, Token: 2}, api.Answer{Error: api.ErrFenced})
		}
		if name == "delayed" {
			p.is("waiting", api.Dead, 0)
		}
		if name == "ready" {
			p.none()
		}
		p.tick(1000, 2-strings.Count("delayed leased", name))
	}
	p := states(t)
	for _, name := range []string{"", "no-job", "Ready"} {
		p.cancel(name, api.ErrNone)
	}
}

func TestCancelUsers(t *testing.T) {
	p := fresh(t, 0, 20)
	p.submit(job("m"), api.OK)
	p.submit(job("c", "m"), api.OK)
	p.submit(job("b", "c", "m"), api.OK)
	p.submit(job("a", "b"), api.OK)
	p.submit(job("d", "m"), api.OK)
	p.cancel("d", api.OK)
	p.submit(job("e", "d"), api.OK)
	p.submit(job("f"), api.OK)
	p.cancel("m", api.OK)
	for _, name := range []string{"a", "b", "c", "e"} {
		p.is(name, api.Dead, 0)
	}
	p.is("d", api.Cancelled, 0)
	p.orders(2, "f")
	p.just("f")
}

func TestRequeue(t *testing.T) {
	for state, name := range stateNames() {
		p := states(t)
		if state != api.Dead {
			p.requeue(name, api.ErrState)
		}
	}
	p := states(t)
	for _, name := range []string{"", "no-job", "Dead"} {
		p.requeue(name, api.ErrNone)
	}
	order := p.s.Order()
	p.requeue("dead", api.OK)
	p.orders(order+1, "dead")
	if j, _ := p.s.Job("dead"); j.Failed != 0 || j.Token != 2 {
		t.Errorf("%+v", j)
	}
	p.requeue("dead", api.ErrState)
	p.lease("ready", 1, 13)
	p.lease("dead", 3, 13)
	p.fail("dead", 3, 1) // all attempts anew
	p.is("dead", api.Delayed, 12)
}

// TestRequeueDeps: not as long as what it stands on is lost; it waits if that isn't done yet.
func TestRequeueDeps(t *testing.T) {
	p := fresh(t, 0, 4)
	p.submit(job("a"), api.OK)
	p.submit(job("b"), api.OK)
	p.submit(later("c", 5, "a", "b"), api.OK)
	p.submit(job("d", "c"), api.OK)
	p.cancel("a", api.OK)
	p.is("c", api.Dead, 0)
	p.requeue("c", api.ErrState) // a is cancelled
	p.requeue("d", api.ErrState) // c is dead
	p.forget("a", api.OK)
	p.requeue("c", api.OK)
	p.is("c", api.Waiting, 0) // for b
	p.requeue("d", api.OK)
	p.is("d", api.Waiting, 0)
	p.submit(job("a"), api.OK)
	p.cancel("c", api.OK)
	p.is("d", api.Dead, 0)
	p.submit(job("e"), api.OK)
	p.submit(job("f"), api.OK)
	p.requeue("d", api.ErrState) // ahead of ErrQuota
	p.forget("c", api.OK)
	p.requeue("d", api.ErrQuota)
	p.cancel("f", api.OK)
	p.requeue("d", api.OK)
	p.orders(6, "d")
}

// TestRequeueDelay: it is delayed anew.
func TestRequeueDelay(t *testing.T) {
	p := fresh(t, 0, 4)
	p.submit(later("a", 5), api.OK)
	p.tick(5, 1)
	for i := range uint64(2) {
		p.lease("a", i+1, p.s.Now()+3)
		p.tick(p.s.Now()+3, 1)
		p.tick(p.s.Now()+2, 1-int(i))
	}
	p.is("a", api.Dead, 0)
	p.requeue("a", api.OK)
	p.is("a", api.Delayed, p.s.Now()+5)
}

func TestForget(t *testing.T) {
	for state, name := range stateNames() {
		p := states(t)
		n := p.s.Len()
		if state == api.Done || state == api.Dead || state == api.Cancelled {
			p.forget(name, api.OK)
			if _, ok := p.s.Job(name); ok || p.s.Len() != n-1 {
				t.Error(name, "is there still")
			}
			p.forget(name, api.ErrNone)
			p.submit(job("x", name), api.ErrNone)
			p.submit(job(name), api.OK)
			if j, _ := p.s.Job(name); j.Token != 0 {
				t.Errorf("%+v", j)
			}
		} else {
			p.forget(name, api.ErrState)
		}
	}
	p := states(t)
	for _, name := range []string{"", "no-job", "Done"} {
		p.forget(name, api.ErrNone)
	}
}

// TestForgetUsers: not as long as one stands on it of which more can become; it goes out of the others' Deps.
func TestForgetUsers(t *testing.T) {
	for state, name := range stateNames() {
		if state == api.Template {
			continue
		}
		p := fresh(t, 0, 9)
		p.submit(job("l"), api.OK)
		p.submit(job("m"), api.OK)
		p.submit(job("n"), api.OK)
		for i, name := range []string{"l", "m", "n"} {
			if name == "n" && state == api.Waiting {
				break
			}
			p.lease(name, 1, 3)
			p.complete(name, 1, int64(i))
		}
		s := job("u", "l", "m", "n")
		s.Attempts = 1
		if state == api.Delayed {
			s.Delay = 1
		}
		p.submit(s, api.OK)
		switch state {
		case api.Leased:
			p.lease("u", 1, 3)
		case api.Done:
			p.lease("u", 1, 3)
			p.complete("u", 1, 1)
		case api.Dead:
			p.lease("u", 1, 3)
			p.fail("u", 1, 1)
		case api.Cancelled:
			p.cancel("u", api.OK)
		}
		if j, _ := p.s.Job("u"); j.State != state {
			t.Fatalf("%s: %+v", name, j)
		}
		if state != api.Done && state != api.Dead && state != api.Cancelled {
			p.forget("m", api.ErrState)
			continue
		}
		p.forget("m", api.OK)
		if j, _ := p.s.Job("u"); !slices.Equal(j.Spec.Deps, []string{"l", "n"}) {
			t.Errorf("%+v", j)
		}
		p.forget("l", api.OK)
		p.forget("n", api.OK)
		if j, _ := p.s.Job("u"); len(j.Spec.Deps) != 0 || j.State != state {
			t.Errorf("%+v", j)
		}
		// One of the same name is another one: nobody stands on it.
		p.submit(job("m"), api.OK)
		p.cancel("m", api.OK)
		p.forget("m", api.OK)
	}
}

// TestForgetMixed: one that goes on is enough, whichever of those that stand on it that is.
func TestForgetMixed(t *testing.T) {
	for i := range 3 {
		p := fresh(t, 0, 9)
		p.submit(job("m"), api.OK)
		p.lease("m", 1, 3)
		p.complete("m", 1, 1)
		for _, name := range []string{"a", "b", "c"} {
			p.submit(job(name, "m"), api.OK)
		}
		for j, name := range []string{"a", "b", "c"} {
			if i != j {
				p.cancel(name, api.OK)
			}
		}
		p.forget("m", api.ErrState)
		p.cancel(string(rune('a'+i)), api.OK)
		p.forget("m", api.OK)
	}
}

func TestTickErrors(t *testing.T) {
	p := states(t)
	for _, to := range []int64{9, 0, -1, math.MinInt64, last + 1, math.MaxInt64} {
		p.do(api.Command{Kind: api.Tick, Value: to}, api.Answer{Error: api.ErrRange})
	}
	p.tick(10, 0)
	p.tick(last, 2)
	p.do(api.Command{Kind: api.Tick, Value: last - 1}, api.Answer{Error: api.ErrRange})
	p.do(api.Command{Kind: api.Tick, Value: last + 1}, api.Answer{Error: api.ErrRange})
	p.tick(last, 0)
}

// TestTickOrder: by Due, then by names, those that are delayed and those that are leased in one row.
func TestTickOrder(t *testing.T) {
	p := fresh(t, 0, 20)
	leased := func(name string, lease int64) {
		s := job(name)
		s.Base, s.Lease = 0, lease
		p.submit(s, api.OK)
		p.lease(name, 1, p.s.Now()+lease)
	}
	leased("e", 5)
	leased("a", 7)
	p.submit(later("d", 5), api.OK)
	p.submit(later("b", 7), api.OK)
	p.submit(later("c", 6), api.OK)
	p.submit(later("f", 5), api.OK)
	p.submit(later("g", 8), api.OK)
	leased("h", 4)
	order := p.s.Order()
	p.tick(3, 0)
	p.tick(7, 7)
	p.orders(order+1, "h", "d", "e", "f", "c", "a", "b")
	p.is("g", api.Delayed, 8)
	p.tick(8, 1)
	p.orders(order+8, "g")
}

// TestTickOnce: who fails or becomes ready in a turn isn't due in it once more.
func TestTickOnce(t *testing.T) {
	p := fresh(t, 0, 20)
	s := job("a")
	s.Base, s.Cap, s.Lease, s.Attempts = 1, 1, 1, 3
	p.submit(s, api.OK)
	p.lease("a", 1, 1)
	p.tick(1000, 1)
	p.is("a", api.Delayed, 1001)
	p.tick(1001, 1)
	p.lease("a", 2, 1002)
	p.tick(1003, 1)
	p.retry("a")
	p.tick(1010, 1)
	p.is("a", api.Dead, 0)
}

// retry lets a job's wait end, and has it leased.
func (p *pair) retry(name string) {
	p.t.Helper()
	j, _ := p.s.Job(name)
	p.tick(j.Due, 1)
	p.lease(name, j.Token+1, p.s.Now()+j.Spec.Lease)
}

// TestTickDies: a lease that ends may be the last attempt.
func TestTickDies(t *testing.T) {
	p := fresh(t, 0, 20)
	s := job("m")
	s.Attempts = 1
	p.submit(s, api.OK)
	p.submit(job("a", "m"), api.OK)
	p.lease("m", 1, 3)
	p.tick(2, 0)
	p.tick(3, 1)
	p.is("m", api.Dead, 0)
	p.is("a", api.Dead, 0)
	p.do(api.Command{Kind: api.Complete, Name: "m", Token: 1}, api.Answer{Error: api.ErrFenced})
}
