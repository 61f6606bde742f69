package sched

import (
	"slices"

	"compline/api"
	"compline/crontab"
	"compline/spec"
)

const mostMissed = 1 << 30 // ticks that are counted of a template

// only is an answer with nothing but an error.
func only(e api.Errno) api.Answer { return api.Answer{Error: e} }

// value is an answer without an error.
func value(n int64) api.Answer { return api.Answer{Value: n} }

// Do: a command.
func (s *Sched) Do(c api.Command) api.Answer {
	if s == nil {
		return only(api.ErrArg)
	}
	switch c.Kind {
	case api.Nothing:
		return api.Answer{}
	case api.Submit:
		return only(s.submit(c.Spec))
	case api.Lease:
		return s.lease(c.Worker)
	case api.Renew, api.Complete, api.Fail:
		return s.report(c)
	case api.Cancel:
		return only(s.cancel(c.Name))
	case api.Requeue:
		return only(s.requeue(c.Name))
	case api.Forget:
		return only(s.forget(c.Name))
	case api.Tick:
		return s.tick(c.Value)
	}
	return only(api.ErrArg)
}

// isFull is whether a tenant has as many jobs as it may.
func (s *Sched) isFull(tenant string) bool { return s.ledger.Has(tenant) >= s.ledger.May(tenant) }

// submit takes a job in.
func (s *Sched) submit(x api.Spec) api.Errno {
	if e := spec.Check(x); e != api.OK {
		return e
	}
	if s.jobs[x.Name] != nil {
		return api.ErrSame
	}
	if slices.ContainsFunc(x.Deps, func(on string) bool { return s.jobs[on] == nil }) {
		return api.ErrNone
	}
	if len(s.jobs) >= api.MaxJobs {
		return api.ErrFull
	}
	if s.isFull(x.Tenant) {
		return api.ErrQuota
	}
	// There are no errors: all that could be wrong was asked.
	s.stands.Add(x.Name, x.Deps...)
	s.put(api.Job{Spec: x, State: api.Waiting, Created: s.Now()})
	s.begin(s.jobs[x.Name])
	return api.OK
}

// begin gives a job that is new its first state.
func (s *Sched) begin(j *api.Job) {
	switch {
	case j.Spec.Cron != "":
		s.become(j, api.Template, 0, "")
	case s.standsOnLost(j):
		s.die(j)
	default:
		s.goOn(j)
	}
}

// lease hands the next job to a worker.
func (s *Sched) lease(worker string) api.Answer {
	if !spec.Name(worker) {
		return only(api.ErrName)
	}
	name, ok := s.row.Next()
	if !ok {
		return only(api.ErrNone)
	}
	j := s.jobs[name]
	j.Token++
	s.become(j, api.Leased, s.behind(j.Spec.Lease), worker)
	return api.Answer{Name: name, Token: j.Token, Value: j.Due}
}

// report is of a job that is leased, under the token of its lease.
func (s *Sched) report(c api.Command) api.Answer {
	j := s.jobs[c.Name]
	switch {
	case j == nil:
		return only(api.ErrNone)
	case j.State == api.Done && j.Token == c.Token:
		return api.Answer{Error: api.ErrDone, Value: j.Result}
	case j.State != api.Leased || j.Token != c.Token:
		return only(api.ErrFenced)
	}
	switch c.Kind {
	case api.Renew:
		s.become(j, api.Leased, s.behind(j.Spec.Lease), j.Worker)
		return value(j.Due)
	case api.Complete:
		j.Result = c.Value
		s.become(j, api.Done, 0, "")
		s.tell(c.Name, s.goOn)
		return api.Answer{}
	}
	s.fail(j)
	return value(int64(j.Failed))
}

// cancel ends a job.
func (s *Sched) cancel(name string) api.Errno {
	j := s.jobs[name]
	if j == nil {
		return api.ErrNone
	}
	if spec.Final(j.State) {
		return api.ErrState
	}
	s.end(j, api.Cancelled)
	return api.OK
}

// requeue lets a dead job begin anew.
func (s *Sched) requeue(name string) api.Errno {
	j := s.jobs[name]
	if j == nil {
		return api.ErrNone
	}
	if j.State != api.Dead || s.standsOnLost(j) {
		return api.ErrState
	}
	if s.isFull(j.Spec.Tenant) {
		return api.ErrQuota
	}
	j.Failed = 0
	s.become(j, api.Waiting, 0, "")
	s.goOn(j)
	return api.OK
}

// forget lets a job go of which nothing more can become.
func (s *Sched) forget(name string) api.Errno {
	j := s.jobs[name]
	if j == nil {
		return api.ErrNone
	}
	users := s.stands.Users(name)
	if !spec.Final(j.State) || slices.ContainsFunc(users, func(user string) bool { return !spec.Final(s.jobs[user].State) }) {
		return api.ErrState
	}
	for _, user := range users {
		u := s.jobs[user]
		u.Spec.Deps = slices.DeleteFunc(u.Spec.Deps, func(on string) bool { return on == name })
	}
	s.stands.Cut(name)
	delete(s.jobs, name)
	return api.OK
}

// tick lets time go on.
func (s *Sched) tick(to int64) api.Answer {
	from := s.Now()
	due, e := s.timers.Turn(to)
	if e != api.OK {
		return only(e)
	}
	for _, t := range due {
		if j := s.jobs[t.Name]; j.State == api.Delayed {
			s.ready(j)
		} else {
			s.fail(j)
		}
	}
	// What is submitted meanwhile is no template.
	for _, name := range s.names() {
		if j := s.jobs[name]; j.State == api.Template {
			s.run(j, from)
		}
	}
	return value(int64(len(due)))
}

// run submits the instances of a template that are due above a tick.
func (s *Sched) run(j *api.Job, from int64) {
	// One that was restored may be no template by its spec: no tick is due.
	ticks, missed, _ := crontab.Due(j.Spec, from, s.Now())
	for range ticks {
		if s.instance(j.Spec, j.Runs+j.Missed+1) {
			j.Runs++
		} else {
			miss(j, 1)
		}
	}
	miss(j, missed)
}

// instance is whether a template has an instance of that number, and it could be submitted.
func (s *Sched) instance(x api.Spec, n int) bool {
	x, e := crontab.Instance(x, n)
	return e == api.OK && s.submit(x) == api.OK
}

// miss counts ticks of a template that were missed.
func miss(j *api.Job, n int) { j.Missed = min(j.Missed, mostMissed-n) + n }
