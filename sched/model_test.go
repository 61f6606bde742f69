package sched_test

import (
	"cmp"
	"maps"
	"reflect"
	"slices"
	"strconv"
	"testing"

	"compline/api"
	"compline/crontab"
	"compline/sched"
	"compline/spec"
)

const last = api.MaxTick

// model is a scheduler by the words of chapter 17: jobs, and nothing else that has to be kept in step with them.
type model struct {
	now   int64
	each  int
	order uint64
	jobs  map[string]*api.Job
}

func newModel(now int64, each int) *model { return &model{now, each, 0, map[string]*api.Job{}} }

func (m *model) copy() *model {
	c := &model{m.now, m.each, m.order, map[string]*api.Job{}}
	for name, j := range m.jobs {
		k := *j
		k.Spec.Deps = slices.Clone(j.Spec.Deps)
		c.jobs[name] = &k
	}
	return c
}

// those is the jobs of which something holds, rising by names.
func (m *model) those(holds func(j *api.Job) bool) []*api.Job {
	var l []*api.Job
	for _, name := range slices.Sorted(maps.Keys(m.jobs)) {
		if holds(m.jobs[name]) {
			l = append(l, m.jobs[name])
		}
	}
	return l
}

// waiting is those that wait for a job.
func (m *model) waiting(name string) []*api.Job {
	return m.those(func(j *api.Job) bool {
		return j.State == api.Waiting && slices.Contains(j.Spec.Deps, name)
	})
}

// deps is how many of those on which a job stands have one of some states.
func (m *model) deps(s api.Spec, states ...int) int {
	n := 0
	for _, on := range s.Deps {
		if slices.Contains(states, m.jobs[on].State) {
			n++
		}
	}
	return n
}

// has is how many jobs a tenant has.
func (m *model) has(tenant string) int {
	return len(m.those(func(j *api.Job) bool { return j.Spec.Tenant == tenant && !final(j) }))
}

func final(j *api.Job) bool {
	return j.State == api.Done || j.State == api.Dead || j.State == api.Cancelled
}

// is gives a job a state.
func is(j *api.Job, state int, due int64, worker string) {
	j.State, j.Due, j.Worker = state, min(due, last), worker
}

func (m *model) ready(j *api.Job) {
	m.order++
	j.Order = m.order
	is(j, api.Ready, 0, "")
}

func (m *model) goOn(j *api.Job) {
	switch {
	case m.deps(j.Spec, api.Done) < len(j.Spec.Deps):
	case j.Spec.Delay == 0:
		m.ready(j)
	default:
		is(j, api.Delayed, m.now+j.Spec.Delay, "")
	}
}

func (m *model) die(j *api.Job) {
	is(j, api.Dead, 0, "")
	m.lose(j.Spec.Name)
}

// lose lets die who waits for a job.
func (m *model) lose(name string) {
	for _, j := range m.waiting(name) {
		if j.State == api.Waiting {
			m.die(j)
		}
	}
}

func (m *model) fail(j *api.Job) {
	j.Failed++
	if j.Failed == j.Spec.Attempts {
		m.die(j)
		return
	}
	wait := j.Spec.Base
	for range min(j.Failed-1, 40) {
		wait = min(2*wait, api.MaxSpan)
	}
	wait = min(wait, j.Spec.Cap)
	if wait == 0 {
		m.ready(j)
		return
	}
	is(j, api.Delayed, m.now+wait, "")
}

func (m *model) submit(s api.Spec) api.Errno {
	if e := spec.Check(s); e != api.OK {
		return e
	}
	if m.jobs[s.Name] != nil {
		return api.ErrSame
	}
	for _, on := range s.Deps {
		if m.jobs[on] == nil {
			return api.ErrNone
		}
	}
	if len(m.jobs) == 128 {
		return api.ErrFull
	}
	if m.has(s.Tenant) >= m.each {
		return api.ErrQuota
	}
	s.Deps = slices.Clone(s.Deps)
	j := &api.Job{Spec: s, Created: m.now}
	m.jobs[s.Name] = j
	switch {
	case s.Cron != "":
		j.State = api.Template
	case m.deps(s, api.Dead, api.Cancelled) > 0:
		j.State = api.Dead
	default:
		m.goOn(j)
	}
	return api.OK
}

func (m *model) lease(worker string) api.Answer {
	if !spec.Name(worker) {
		return api.Answer{Error: api.ErrName}
	}
	l := m.those(func(j *api.Job) bool { return j.State == api.Ready })
	if len(l) == 0 {
		return api.Answer{Error: api.ErrNone}
	}
	j := slices.MinFunc(l, func(a, b *api.Job) int {
		return cmp.Or(cmp.Compare(a.Spec.Priority, b.Spec.Priority), cmp.Compare(a.Order, b.Order), cmp.Compare(a.Spec.Name, b.Spec.Name))
	})
	j.Token++
	is(j, api.Leased, m.now+j.Spec.Lease, worker)
	return api.Answer{Name: j.Spec.Name, Token: j.Token, Value: j.Due}
}

func (m *model) report(c api.Command) api.Answer {
	j := m.jobs[c.Name]
	if j == nil {
		return api.Answer{Error: api.ErrNone}
	}
	if j.State == api.Done && j.Token == c.Token {
		return api.Answer{Error: api.ErrDone, Value: j.Result}
	}
	if j.State != api.Leased || j.Token != c.Token {
		return api.Answer{Error: api.ErrFenced}
	}
	if c.Kind == api.Renew {
		j.Due = min(m.now+j.Spec.Lease, last)
		return api.Answer{Value: j.Due}
	}
	if c.Kind == api.Fail {
		m.fail(j)
		return api.Answer{Value: int64(j.Failed)}
	}
	is(j, api.Done, 0, "")
	j.Result = c.Value
	for _, k := range m.waiting(c.Name) {
		m.goOn(k)
	}
	return api.Answer{}
}

func (m *model) cancel(name string) api.Errno {
	j := m.jobs[name]
	if j == nil {
		return api.ErrNone
	}
	if final(j) {
		return api.ErrState
	}
	is(j, api.Cancelled, 0, "")
	m.lose(name)
	return api.OK
}

func (m *model) requeue(name string) api.Errno {
	j := m.jobs[name]
	if j == nil {
		return api.ErrNone
	}
	if j.State != api.Dead || m.deps(j.Spec, api.Dead, api.Cancelled) > 0 {
		return api.ErrState
	}
	if m.has(j.Spec.Tenant) >= m.each {
		return api.ErrQuota
	}
	j.Failed = 0
	is(j, api.Waiting, 0, "")
	m.goOn(j)
	return api.OK
}

func (m *model) forget(name string) api.Errno {
	j := m.jobs[name]
	if j == nil {
		return api.ErrNone
	}
	users := m.those(func(k *api.Job) bool { return slices.Contains(k.Spec.Deps, name) })
	for _, k := range append(users, j) {
		if !final(k) {
			return api.ErrState
		}
	}
	for _, k := range users {
		i := slices.Index(k.Spec.Deps, name)
		k.Spec.Deps = slices.Delete(slices.Clone(k.Spec.Deps), i, i+1)
	}
	delete(m.jobs, name)
	return api.OK
}

func (m *model) tick(to int64) api.Answer {
	if to < m.now || to > last {
		return api.Answer{Error: api.ErrRange}
	}
	from := m.now
	m.now = to
	due := m.those(func(j *api.Job) bool {
		return (j.State == api.Delayed || j.State == api.Leased) && j.Due <= to
	})
	slices.SortStableFunc(due, func(a, b *api.Job) int { return cmp.Compare(a.Due, b.Due) })
	for _, j := range due {
		if j.State == api.Delayed {
			m.ready(j)
		} else {
			m.fail(j)
		}
	}
	for _, j := range m.those(func(j *api.Job) bool { return j.State == api.Template }) {
		ticks, missed, _ := crontab.Due(j.Spec, from, to)
		for range ticks {
			x := j.Spec
			number := j.Runs + j.Missed + 1
			x.Name, x.Cron, x.Catch = x.Name+"."+strconv.Itoa(number), "", 0
			if number <= 999999 && m.submit(x) == api.OK {
				j.Runs++
			} else {
				j.Missed++
			}
		}
		j.Missed = min(j.Missed+missed, 1<<30)
	}
	return api.Answer{Value: int64(len(due))}
}

func (m *model) do(c api.Command) api.Answer {
	switch c.Kind {
	case api.Nothing:
		return api.Answer{}
	case api.Submit:
		return api.Answer{Error: m.submit(c.Spec)}
	case api.Lease:
		return m.lease(c.Worker)
	case api.Renew, api.Complete, api.Fail:
		return m.report(c)
	case api.Cancel:
		return api.Answer{Error: m.cancel(c.Name)}
	case api.Requeue:
		return api.Answer{Error: m.requeue(c.Name)}
	case api.Forget:
		return api.Answer{Error: m.forget(c.Name)}
	case api.Tick:
		return m.tick(c.Value)
	}
	return api.Answer{Error: api.ErrArg}
}

// all is the model's jobs, rising by names.
func (m *model) all() []api.Job {
	var l []api.Job
	for _, j := range m.copy().those(func(*api.Job) bool { return true }) {
		l = append(l, *j)
	}
	return l
}

// alike is whether two jobs are the same, nil and empty lists being the same.
func alike(a, b api.Job) bool {
	for _, j := range []*api.Job{&a, &b} {
		if len(j.Spec.Deps) == 0 {
			j.Spec.Deps = nil
		}
	}
	return reflect.DeepEqual(a, b)
}

// holds holds all that can be asked of a scheduler against its model.
func holds(t *testing.T, what string, s *sched.Sched, m *model) {
	t.Helper()
	if s.Now() != m.now || s.Each() != m.each || s.Order() != m.order || s.Len() != len(m.jobs) {
		t.Fatalf("%s: Now %d, Each %d, Order %d, Len %d, not %d, %d, %d, %d", what, s.Now(), s.Each(), s.Order(), s.Len(), m.now, m.each, m.order, len(m.jobs))
	}
	want := m.all()
	if l := slices.Collect(s.Jobs()); !slices.EqualFunc(l, want, alike) {
		t.Fatalf("%s: Jobs: %+v, not %+v", what, l, want)
	}
	for _, w := range want {
		if j, ok := s.Job(w.Spec.Name); !ok || !alike(j, w) {
			t.Fatalf("%s: Job: %+v, %v, not %+v", what, j, ok, w)
		}
	}
	for _, name := range []string{"", "no job", "a", "b", "c.1"} {
		if j, ok := s.Job(name); ok != (m.jobs[name] != nil) || !ok && !alike(j, api.Job{}) {
			t.Fatalf("%s: Job(%q): %+v, %v", what, name, j, ok)
		}
	}
}

// pair is a scheduler and its model.
type pair struct {
	t *testing.T
	s *sched.Sched
	m *model
}

// fresh is a pair without jobs.
func fresh(t *testing.T, now int64, each int) *pair {
	t.Helper()
	s, e := sched.New(now, each)
	if s == nil || e != api.OK {
		t.Fatalf("New(%d, %d): %v, %d", now, each, s, e)
	}
	return &pair{t, s, newModel(now, each)}
}

// restored is a pair with jobs, that are such as may be.
func restored(t *testing.T, now int64, each int, order uint64, jobs ...api.Job) *pair {
	t.Helper()
	s, e := sched.Restore(now, each, order, jobs)
	if s == nil || e != api.OK {
		t.Fatalf("Restore(%d, %d, %d, %+v): %v, %d", now, each, order, jobs, s, e)
	}
	m := newModel(now, each)
	m.order = order
	for _, j := range jobs {
		m.jobs[j.Spec.Name] = &j
	}
	p := &pair{t, s, &model{now, each, order, m.copy().jobs}}
	holds(t, "restored", p.s, p.m)
	return p
}

// same does a command to both, without holding their jobs against each other.
func (p *pair) same(c api.Command) api.Answer {
	p.t.Helper()
	a, want := p.s.Do(c), p.m.do(c)
	if a != want {
		p.t.Fatalf("at %d: %+v: %+v, not %+v, of %+v", p.m.now, c, a, want, p.m.all())
	}
	return a
}

// do does a command to both, and holds its answer and what becomes of it against what is promised.
func (p *pair) do(c api.Command, want api.Answer) {
	p.t.Helper()
	ahead := p.m.all()
	if a := p.same(c); a != want {
		p.t.Fatalf("at %d: %+v: %+v, not %+v, of %+v", p.m.now, c, a, want, ahead)
	}
	holds(p.t, "done", p.s, p.m)
	// A model that changes jobs beside an error would be wrong itself.
	if want.Error != api.OK && !slices.EqualFunc(ahead, p.m.all(), alike) {
		p.t.Fatalf("%+v: refused, but %+v, not %+v", c, p.m.all(), ahead)
	}
}

// The commands, each with what it has to answer.

func (p *pair) submit(s api.Spec, want api.Errno) {
	p.t.Helper()
	p.do(api.Command{Kind: api.Submit, Spec: s}, api.Answer{Error: want})
}

// lease has a worker, w, lease a job that has to be the next one.
func (p *pair) lease(name string, token uint64, due int64) {
	p.t.Helper()
	p.do(api.Command{Kind: api.Lease, Worker: "w"}, api.Answer{Name: name, Token: token, Value: due})
	p.is(name, api.Leased, due)
	if j, _ := p.s.Job(name); j.Worker != "w" || j.Token != token {
		p.t.Fatalf("%+v", j)
	}
}

// none: no job is ready.
func (p *pair) none() {
	p.t.Helper()
	p.do(api.Command{Kind: api.Lease, Worker: "w"}, api.Answer{Error: api.ErrNone})
}

func (p *pair) renew(name string, token uint64, due int64) {
	p.t.Helper()
	p.do(api.Command{Kind: api.Renew, Name: name, Token: token}, api.Answer{Value: due})
	p.is(name, api.Leased, due)
}

func (p *pair) complete(name string, token uint64, result int64) {
	p.t.Helper()
	p.do(api.Command{Kind: api.Complete, Name: name, Token: token, Value: result}, api.Answer{})
	p.is(name, api.Done, 0)
	if j, _ := p.s.Job(name); j.Result != result {
		p.t.Fatalf("%+v", j)
	}
}

func (p *pair) fail(name string, token uint64, failed int) {
	p.t.Helper()
	p.do(api.Command{Kind: api.Fail, Name: name, Token: token}, api.Answer{Value: int64(failed)})
}

func (p *pair) cancel(name string, want api.Errno) {
	p.t.Helper()
	p.do(api.Command{Kind: api.Cancel, Name: name}, api.Answer{Error: want})
}

func (p *pair) requeue(name string, want api.Errno) {
	p.t.Helper()
	p.do(api.Command{Kind: api.Requeue, Name: name}, api.Answer{Error: want})
}

func (p *pair) forget(name string, want api.Errno) {
	p.t.Helper()
	p.do(api.Command{Kind: api.Forget, Name: name}, api.Answer{Error: want})
}

// tick goes to a tick, at which so many are due.
func (p *pair) tick(to int64, due int) {
	p.t.Helper()
	p.do(api.Command{Kind: api.Tick, Value: to}, api.Answer{Value: int64(due)})
}

// is that a job has a state, and a due tick; who isn't leased has no worker.
func (p *pair) is(name string, state int, due int64) {
	p.t.Helper()
	j, ok := p.s.Job(name)
	if !ok || j.State != state || j.Due != due || (j.Worker != "") != (state == api.Leased) {
		p.t.Fatalf("%s: %+v, %v, not of state %d, due %d", name, j, ok, state, due)
	}
}

// orders is in which order each of some jobs became ready.
func (p *pair) orders(want uint64, names ...string) {
	p.t.Helper()
	for i, name := range names {
		if j, ok := p.s.Job(name); !ok || j.State != api.Ready || j.Order != want+uint64(i) {
			p.t.Fatalf("%s: %+v, %v, not ready as the %d.", name, j, ok, want+uint64(i))
		}
	}
}

// job is a spec that may be, without delays, standing on others.
func job(name string, deps ...string) api.Spec {
	return api.Spec{Name: name, Tenant: "t", Deps: deps, Base: 2, Cap: 5, Attempts: 2, Lease: 3}
}

// later is a spec that may be, with a delay.
func later(name string, delay int64, deps ...string) api.Spec {
	s := job(name, deps...)
	s.Delay = delay
	return s
}

// template is a spec that may be, with an expression.
func template(name, text string, catch int) api.Spec {
	s := job(name)
	s.Cron, s.Catch = text, catch
	return s
}
