package sched

import (
	"math"
	"slices"

	"compline/api"
	"compline/backoff"
	"compline/spec"
)

// put lays a job in, with the state that it has.
func (s *Sched) put(j api.Job) api.Errno {
	own := clone(j)
	if e := s.enter(&own); e != api.OK {
		return e
	}
	s.jobs[j.Spec.Name] = &own
	return api.OK
}

// enter puts a job where its state belongs.
func (s *Sched) enter(j *api.Job) api.Errno {
	if !spec.Final(j.State) {
		if e := s.ledger.Take(j.Spec.Tenant); e != api.OK {
			return e
		}
	}
	switch j.State {
	case api.Ready:
		return s.row.Put(j.Spec.Name, j.Spec.Priority, j.Order)
	case api.Delayed, api.Leased:
		return s.timers.Add(j.Spec.Name, j.Due)
	}
	return api.OK
}

// leave takes a job away from where its state belongs.
func (s *Sched) leave(j *api.Job) {
	if !spec.Final(j.State) {
		s.ledger.Give(j.Spec.Tenant)
	}
	switch j.State {
	case api.Ready:
		s.row.Cut(j.Spec.Name)
	case api.Delayed, api.Leased:
		s.timers.Cut(j.Spec.Name)
	}
}

// become gives a job another state, with what is a lease's or a delay's.
func (s *Sched) become(j *api.Job, state int, due int64, worker string) {
	s.leave(j)
	j.State, j.Due, j.Worker = state, due, worker
	s.enter(j)
}

// ready lets a job become ready.
func (s *Sched) ready(j *api.Job) {
	// What is told of a scheduler can be restored: an order that begins anew would lie below those of jobs.
	if s.order < math.MaxUint64 {
		s.order++
	}
	j.Order = s.order
	s.become(j, api.Ready, 0, "")
}

// behind is so many ticks behind now, or the last one.
func (s *Sched) behind(span int64) int64 { return min(s.Now()+span, api.MaxTick) }

// standsOn is whether something holds of the state of one that a job stands on.
func (s *Sched) standsOn(j *api.Job, holds func(state int) bool) bool {
	return slices.ContainsFunc(j.Spec.Deps, func(on string) bool { return holds(s.jobs[on].State) })
}

// standsOnLost is whether a job stands on one that is Dead or Cancelled.
func (s *Sched) standsOnLost(j *api.Job) bool {
	return s.standsOn(j, func(state int) bool { return state == api.Dead || state == api.Cancelled })
}

// goOn lets a Waiting job go on, if it may.
func (s *Sched) goOn(j *api.Job) {
	if s.standsOn(j, func(state int) bool { return state != api.Done }) {
		return
	}
	if j.Spec.Delay == 0 {
		s.ready(j)
		return
	}
	s.become(j, api.Delayed, s.behind(j.Spec.Delay), "")
}

// tell does something with each Waiting job that stands on one, rising by names.
func (s *Sched) tell(name string, do func(j *api.Job)) {
	for _, user := range s.stands.Users(name) {
		if j := s.jobs[user]; j.State == api.Waiting {
			do(j)
		}
	}
}

// die lets a job die, and those that wait for it.
func (s *Sched) die(j *api.Job) { s.end(j, api.Dead) }

// end lets a job be Dead or Cancelled, and those that wait for it die.
func (s *Sched) end(j *api.Job, state int) {
	s.become(j, state, 0, "")
	s.tell(j.Spec.Name, s.die)
}

// fail lets a job fail.
func (s *Sched) fail(j *api.Job) {
	// One that was restored may have failed as often as can be counted.
	if j.Failed < math.MaxInt {
		j.Failed++
	}
	if j.Failed == j.Spec.Attempts {
		s.die(j)
		return
	}
	// There is no error: base and cap of a spec that may be are spans, and Failed is above 0.
	wait, _ := backoff.Wait(j.Spec.Base, j.Spec.Cap, j.Failed-1)
	if wait == 0 {
		s.ready(j)
		return
	}
	s.become(j, api.Delayed, s.behind(wait), "")
}
