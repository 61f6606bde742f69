package sched_test

import (
	"strconv"
	"testing"

	"compline/api"
)

// counts is how many instances a template had, and how many were missed.
func (p *pair) counts(name string, runs, missed int) {
	p.t.Helper()
	if j, ok := p.s.Job(name); !ok || j.State != api.Template || j.Runs != runs || j.Missed != missed {
		p.t.Fatalf("%+v, %v, not %d, %d", j, ok, runs, missed)
	}
}

// TestTemplate: each tick that its expression names is an instance, above the one of its submission.
func TestTemplate(t *testing.T) {
	p := fresh(t, 10, 100)
	s := template("c", "*/5 * * * *", 4)
	s.Priority, s.Base, s.Cap, s.Attempts, s.Lease = 2, 7, 8, 9, 11
	p.submit(s, api.OK)
	p.counts("c", 0, 0)
	p.none()
	p.tick(10, 0)
	p.counts("c", 0, 0) // tick 10 is named, but not above
	p.tick(14, 0)
	p.counts("c", 0, 0)
	p.tick(15, 0)
	p.counts("c", 1, 0)
	p.orders(1, "c.1")
	p.tick(15, 0)
	p.counts("c", 1, 0)
	p.tick(29, 0)
	p.counts("c", 3, 0)
	p.orders(1, "c.1", "c.2", "c.3")
	p.tick(30, 0)
	p.counts("c", 4, 0)
	j, _ := p.s.Job("c.4")
	want := s
	want.Name, want.Cron, want.Catch = "c.4", "", 0
	if !alike(j, api.Job{Spec: want, State: api.Ready, Order: 4, Created: 30}) {
		t.Errorf("%+v", j)
	}
	if j, _ := p.s.Job("c.2"); j.Created != 29 {
		t.Errorf("%+v", j)
	}
	p.lease("c.1", 1, 41)
	p.complete("c.1", 1, 1)
}

// TestCatch: what is beyond the first ones is missed; the numbers go on behind those.
func TestCatch(t *testing.T) {
	p := fresh(t, 0, 100)
	p.submit(template("c", "* * * * *", 2), api.OK)
	p.tick(2, 0)
	p.counts("c", 2, 0)
	p.tick(5, 0)
	p.counts("c", 4, 1)
	p.tick(6, 0)
	p.counts("c", 5, 1)
	p.orders(1, "c.1", "c.2", "c.3", "c.4", "c.6")
	p.tick(106, 0)
	p.counts("c", 7, 99)
	p.orders(6, "c.7", "c.8")
	p.tick(107, 0)
	p.orders(8, "c.107")
}

// TestTemplateRefused: an instance that isn't taken in is missed, and its number is used up.
func TestTemplateRefused(t *testing.T) {
	p := fresh(t, 0, 4)
	p.submit(job("c.2"), api.OK) // the name of the second one
	p.submit(template("c", "* * * * *", 4), api.OK)
	p.tick(1, 0)
	p.tick(2, 0)
	p.counts("c", 1, 1)
	p.tick(4, 0) // c.3; then the tenant has as many as it may
	p.counts("c", 2, 2)
	p.cancel("c.2", api.OK)
	p.tick(5, 0)
	p.counts("c", 3, 2)
	p.cancel("c.1", api.OK)
	p.cancel("c.3", api.OK)
	p.tick(10, 0) // four of five, two of which are taken in
	p.counts("c", 5, 5)
	p.is("c.6", api.Ready, 0)
	p.is("c.7", api.Ready, 0)
	p.forget("c.1", api.OK)
	p.submit(job("c.1"), api.ErrQuota)
}

// TestTemplateFull: instances that have no room are missed.
func TestTemplateFull(t *testing.T) {
	p := fresh(t, 0, api.MaxJobs)
	p.submit(template("c", "* * * * *", 3), api.OK)
	for i := range api.MaxJobs - 3 {
		p.submit(job("j"+strconv.Itoa(i)), api.OK)
	}
	p.tick(3, 0)
	p.counts("c", 2, 1)
	p.tick(4, 0)
	p.counts("c", 2, 2)
	p.cancel("j0", api.OK)
	p.forget("j0", api.OK)
	p.tick(9, 0)
	p.counts("c", 3, 6)
	p.is("c.5", api.Ready, 0)
}

// TestTemplates: rising by names, behind all that were due.
func TestTemplates(t *testing.T) {
	p := fresh(t, 0, 6)
	p.submit(template("z", "*/2 * * * *", 1), api.OK)
	p.submit(template("b", "*/2 * * * *", 2), api.OK)
	p.submit(later("y", 2), api.OK)
	p.tick(2, 1)
	p.orders(1, "y", "b.1", "z.1")
	p.tick(6, 0) // just one more has room: b's is ahead
	p.counts("b", 2, 1)
	p.counts("z", 1, 2)
	p.orders(4, "b.2")
	// One that is due may make room for an instance.
	p.lease("y", 1, 9)
	p.do(api.Command{Kind: api.Fail, Name: "y", Token: 1}, api.Answer{Value: 1})
	p.tick(8, 1)
	p.lease("b.1", 1, 11)
	p.lease("z.1", 1, 11)
	p.lease("b.2", 1, 11)
	p.lease("y", 2, 11)
	p.tick(11, 4) // y is dead, the others wait
	p.is("y", api.Dead, 0)
	p.counts("b", 3, 2)
	p.is("b.5", api.Ready, 0)
}

// TestTemplateEnds: one that is cancelled has no more instances; those that it had stay.
func TestTemplateEnds(t *testing.T) {
	p := fresh(t, 0, 9)
	p.submit(template("c", "* * * * *", 2), api.OK)
	p.submit(job("d", "c"), api.OK) // it waits for as long as there is the template
	p.tick(1, 0)
	p.is("d", api.Waiting, 0)
	p.cancel("c", api.OK)
	p.is("d", api.Dead, 0)
	p.is("c", api.Cancelled, 0)
	p.tick(9, 0)
	if j, _ := p.s.Job("c"); j.Runs != 1 || j.Missed != 0 || p.s.Len() != 3 {
		t.Errorf("%+v", j)
	}
	p.orders(1, "c.1")
}

// at is a template's job, with what it has counted.
func at(runs, missed int) api.Job {
	return api.Job{Spec: template("c", "* * * * *", 2), State: api.Template, Runs: runs, Missed: missed}
}

// TestNumbers: up to 999999.
func TestNumbers(t *testing.T) {
	for _, x := range [][2]int{{999997, 0}, {0, 999997}, {500000, 499997}} {
		p := restored(t, 0, 9, 0, at(x[0], x[1]))
		p.tick(1, 0)
		p.counts("c", x[0]+1, x[1])
		p.tick(3, 0) // 999999, and one that there isn't
		p.counts("c", x[0]+2, x[1]+1)
		p.is("c.999998", api.Ready, 0)
		p.is("c.999999", api.Ready, 0)
		p.tick(6, 0)
		p.counts("c", x[0]+2, x[1]+4)
		if p.s.Len() != 3 {
			t.Error(p.s.Len())
		}
	}
}

// TestMissed: no more than 2^30 are counted.
func TestMissed(t *testing.T) {
	const most = 1 << 30
	for _, x := range []struct{ missed, to, want int }{
		{most - 3, 2, most - 1}, {most - 3, 3, most}, {most - 3, 4, most}, {most - 1, 1, most}, {most, 1, most}, {most, 1000, most},
		{most - 998, 1000, most}, {most - 1000, 1000, most}, {most - 1001, 1000, most - 1},
	} {
		p := restored(t, 0, 9, 0, at(0, x.missed))
		p.tick(int64(x.to), 0)
		p.counts("c", 0, x.want)
		p.tick(int64(x.to), 0)
		p.counts("c", 0, x.want)
	}
	// Of one turn no more than 2^20, besides the first ones.
	p := fresh(t, 0, 9)
	p.submit(template("c", "* * * * *", 2), api.OK)
	p.tick(1<<20+100, 0)
	p.counts("c", 2, 1<<20)
	p.tick(last, 0)
	p.counts("c", 2, 1<<21+2) // there are no such numbers
}

// TestManyTemplates: as many as there may be, up to the last tick.
func TestManyTemplates(t *testing.T) {
	p := fresh(t, 0, api.MaxJobs)
	for i := range api.MaxJobs {
		p.submit(template("c"+strconv.Itoa(i), "* * * * *", api.MaxCatch), api.OK)
	}
	p.tick(last, 0)
	for i := range api.MaxJobs {
		p.counts("c"+strconv.Itoa(i), 0, 1<<20+api.MaxCatch)
	}
}
