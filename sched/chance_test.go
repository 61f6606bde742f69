package sched_test

import (
	"math"
	"math/rand"
	"slices"
	"strconv"
	"strings"
	"testing"

	"compline/api"
	"compline/sched"
)

// few is commands of which all short rows are gone through.
func few() []api.Command {
	a, b := job("a"), later("b", 2, "a")
	a.Attempts, a.Lease, a.Base = 2, 2, 0
	b.Attempts, b.Lease = 1, 1
	l := []api.Command{
		{Kind: api.Submit, Spec: a}, {Kind: api.Submit, Spec: b}, {Kind: api.Submit, Spec: template("c", "*/2 * * * *", 1)},
		{Kind: api.Lease, Worker: "w"},
	}
	for _, kind := range []int{api.Renew, api.Complete, api.Fail} {
		l = append(l, api.Command{Kind: kind, Name: "a", Token: 1})
	}
	for _, kind := range []int{api.Cancel, api.Requeue, api.Forget} {
		l = append(l, api.Command{Kind: kind, Name: "a"})
	}
	return append(l, api.Command{Kind: api.Complete, Name: "b", Token: 1, Value: 7}, api.Command{Kind: api.Requeue, Name: "b"}, api.Command{Kind: api.Tick, Value: 2}, api.Command{Kind: api.Tick, Value: 4})
}

// TestShortRows: all short rows of few commands.
func TestShortRows(t *testing.T) {
	depth := 6
	if testing.Short() {
		depth = 3
	}
	commands := few()
	var walk func(p *pair, depth int)
	walk = func(p *pair, depth int) {
		if depth == 0 {
			return
		}
		for _, c := range commands {
			q := &pair{t, p.s.Copy(), p.m.copy()}
			// What is refused changes nothing: the rows behind it are gone through without it.
			if a := q.same(c); a.Error != api.OK {
				if !slices.EqualFunc(slices.Collect(q.s.Jobs()), p.m.all(), alike) || q.s.Now() != p.m.now || q.s.Order() != p.m.order {
					t.Fatalf("%+v: refused, but %+v, not %+v", c, slices.Collect(q.s.Jobs()), p.m.all())
				}
				continue
			}
			holds(t, "a row", q.s, q.m)
			walk(q, depth-1)
		}
	}
	walk(fresh(t, 0, 2), depth)
	p := fresh(t, 0, 3)
	for _, c := range commands[:2] {
		p.same(c)
	}
	walk(p, depth)
}

// names are those of jobs by chance; instances of templates have names among them.
func names() []string { return strings.Split("a,b,c,d,e,f,c.1,c.2,c.3,d.1", ",") }

// pick is one of a list.
func pick[T any](r *rand.Rand, l []T) T { return l[r.Intn(len(l))] }

// chanceSpec is a spec by chance; seldom one that may not be.
func chanceSpec(r *rand.Rand, names []string) api.Spec {
	s := api.Spec{Name: pick(r, names), Tenant: pick(r, []string{"t", "u"}), Priority: r.Intn(api.Priorities), Base: r.Int63n(4), Cap: r.Int63n(9), Attempts: 1 + r.Intn(3), Lease: 1 + r.Int63n(6)}
	if r.Intn(4) == 0 {
		s.Cron, s.Catch = pick(r, []string{"* * * * *", "*/3 * * * *", "0 * * * *"}), 1+r.Intn(3)
		return s
	}
	if r.Intn(3) == 0 {
		s.Delay = r.Int63n(8)
	}
	if r.Intn(2) == 0 {
		for range r.Intn(4) {
			s.Deps = append(s.Deps, pick(r, names))
		}
		slices.Sort(s.Deps)
		if r.Intn(8) > 0 {
			s.Deps = slices.Compact(s.Deps)
		}
	}
	if r.Intn(60) == 0 {
		s.Lease = 0
	}
	return s
}

// chanceCommand is a command by chance; most of them name jobs and tokens that there are.
func chanceCommand(r *rand.Rand, m *model, names []string) api.Command {
	c := api.Command{Kind: pick(r, []int{api.Nothing, api.Submit, api.Submit, api.Submit, api.Lease, api.Lease, api.Lease, api.Renew, api.Complete, api.Complete, api.Fail, api.Fail, api.Cancel, api.Requeue, api.Requeue, api.Forget, api.Tick, api.Tick}), Worker: pick(r, []string{"w", "v", "w", "v", "w", "v", "W"})}
	if r.Intn(100) == 0 {
		c.Kind = r.Intn(30) - 10
	}
	c.Name = pick(r, names)
	// A state that the kind asks for is taken, if there is one.
	want := map[int][]int{api.Renew: {api.Leased}, api.Complete: {api.Leased, api.Leased, api.Done}, api.Fail: {api.Leased}, api.Requeue: {api.Dead}, api.Forget: {api.Done, api.Dead, api.Cancelled}}[c.Kind]
	if len(want) > 0 && r.Intn(5) > 0 {
		state := pick(r, want)
		if l := m.those(func(j *api.Job) bool { return j.State == state }); len(l) > 0 {
			c.Name = pick(r, l).Spec.Name
		}
	}
	if j := m.jobs[c.Name]; j != nil {
		c.Token = j.Token
	}
	if r.Intn(8) == 0 {
		c.Token += uint64(r.Intn(3)) - 1
	}
	c.Value = int64(r.Uint64() >> r.Intn(64))
	if c.Kind == api.Submit {
		c.Spec = chanceSpec(r, names)
	}
	if c.Kind == api.Tick {
		c.Value = m.now + int64(r.Intn(1<<r.Intn(7))) - int64(r.Intn(20)/19)
	}
	return c
}

// again is a scheduler that is restored out of what one tells, in any order.
func again(t *testing.T, r *rand.Rand, s *sched.Sched) *sched.Sched {
	t.Helper()
	jobs := slices.Collect(s.Jobs())
	r.Shuffle(len(jobs), func(i, j int) { jobs[i], jobs[j] = jobs[j], jobs[i] })
	a, e := sched.Restore(s.Now(), s.Each(), s.Order(), jobs)
	if e != api.OK {
		t.Fatalf("Restore of %+v: %d", jobs, e)
	}
	return a
}

// steady holds what became of jobs by one command against what may become of them (P17.2).
func steady(t *testing.T, c api.Command, a api.Answer, ahead, behind []api.Job) {
	t.Helper()
	was := map[string]api.Job{}
	for _, j := range ahead {
		was[j.Spec.Name] = j
	}
	for _, j := range behind {
		b, ok := was[j.Spec.Name]
		if !ok {
			continue
		}
		leased := c.Kind == api.Lease && a.Name == j.Spec.Name
		if leased && (j.Token != b.Token+1 || j.State != api.Leased) || !leased && j.Token != b.Token {
			t.Fatalf("%+v: %+v, behind %+v", c, j, b)
		}
		if final(&b) && j.State != b.State && !(b.State == api.Dead && c.Kind == api.Requeue && c.Name == j.Spec.Name) {
			t.Fatalf("%+v: %+v, behind %+v", c, j, b)
		}
		if j.State == api.Done && b.State != api.Done && (b.State != api.Leased || c.Kind != api.Complete || c.Token != b.Token) {
			t.Fatalf("%+v: %+v, behind %+v", c, j, b)
		}
	}
}

// goes does a row of commands by chance to a pair; other schedulers that are copied, or restored, on the way go on as it does.
func goes(t *testing.T, r *rand.Rand, p *pair, steps int, names []string) {
	t.Helper()
	other := p.s.Copy()
	for i := range steps {
		c := chanceCommand(r, p.m, names)
		ahead := p.m.all()
		a := p.same(c)
		if b := other.Do(c); b != a {
			t.Fatalf("step %d: %+v: %+v, not %+v, of one that was copied or restored", i, c, b, a)
		}
		holds(t, "step "+strconv.Itoa(i), p.s, p.m)
		behind := p.m.all()
		steady(t, c, a, ahead, behind)
		if a.Error != api.OK && !slices.EqualFunc(ahead, behind, alike) {
			t.Fatalf("%+v: refused, but %+v, not %+v", c, behind, ahead)
		}
		switch r.Intn(20) {
		case 0:
			holds(t, "the other one", other, p.m)
			other = p.s.Copy()
		case 1:
			other = again(t, r, p.s)
		case 2:
			p.s = again(t, r, p.s)
		}
	}
	holds(t, "the other one", other, p.m)
}

// TestChance: long rows of commands by chance.
func TestChance(t *testing.T) {
	rounds := 150
	if testing.Short() {
		rounds = 40
	}
	for seed := range rounds {
		r := rand.New(rand.NewSource(int64(seed)))
		now := pick(r, []int64{0, 0, 1000, last - 50})
		goes(t, r, fresh(t, now, pick(r, []int{1, 2, 3, 5, 128})), 300, names())
	}
}

// TestManyChance: with so many names that there is no room for them.
func TestManyChance(t *testing.T) {
	var many []string
	for i := range 200 {
		many = append(many, "j"+strconv.Itoa(i))
	}
	for seed := range 4 {
		r := rand.New(rand.NewSource(int64(seed)))
		p := fresh(t, 0, 128-20*seed)
		for range 300 {
			p.same(api.Command{Kind: api.Submit, Spec: chanceSpec(r, many)})
		}
		goes(t, r, p, 150, many)
	}
}

// chanceJobs is jobs by chance of any states, with whatever else they have, that can be restored.
func chanceJobs(r *rand.Rand, now int64, order uint64) []api.Job {
	var l []api.Job
	for i, name := range names() {
		if r.Intn(4) == 0 {
			continue
		}
		s := chanceSpec(r, []string{name})
		s.Deps, s.Lease = nil, max(s.Lease, 1)
		for _, j := range l {
			if s.Cron == "" && r.Intn(5) == 0 {
				s.Deps = append(s.Deps, j.Spec.Name)
			}
		}
		slices.Sort(s.Deps)
		j := api.Job{Spec: s, State: r.Intn(api.States), Token: uint64(r.Intn(3)), Failed: r.Intn(4), Result: int64(r.Intn(3)) - 1, Created: r.Int63n(now + 9), Order: uint64(r.Intn(int(order) + 1)), Runs: r.Intn(3), Missed: r.Intn(3)}
		if r.Intn(2) == 0 {
			j.Due, j.Worker = min(max(now+int64(r.Intn(20))-10, 0), last), pick(r, []string{"", "w", "no name"})
		}
		if i > 5 && r.Intn(3) == 0 {
			j.Runs, j.Missed = 999990+r.Intn(10), 1<<30-r.Intn(4)
		}
		l = append(l, j)
	}
	r.Shuffle(len(l), func(i, j int) { l[i], l[j] = l[j], l[i] })
	return l
}

// TestRestoreChance: whatever jobs are restored, the words hold of what becomes of them.
func TestRestoreChance(t *testing.T) {
	rounds := 300
	if testing.Short() {
		rounds = 80
	}
	for seed := range rounds {
		r := rand.New(rand.NewSource(int64(seed)))
		now := pick(r, []int64{0, 5, 1000, last - 40, last})
		order := uint64(r.Intn(12))
		goes(t, r, restored(t, now, 10+r.Intn(5), order, chanceJobs(r, now, order)...), 60, names())
	}
}

// TestAnything: any command, of numbers at their ends and any texts, is answered, and refused without a change.
func TestAnything(t *testing.T) {
	numbers := []int64{0, 1, -1, 2, 5, 16, 17, api.MaxSpan, api.MaxSpan + 1, last, last + 1, math.MaxInt64, math.MinInt64}
	texts := []string{"", "a", "ready", "leased", "A", ".a", "\xff", strings.Repeat("x", 24), strings.Repeat("x", 25), "* * * * *", "0 0 30 2 *", strings.Repeat("* ", 300)}
	r := rand.New(rand.NewSource(17))
	number := func() int64 { return pick(r, numbers) }
	text := func() string { return pick(r, texts) }
	p := states(t)
	for range 20000 {
		c := api.Command{Kind: r.Intn(12) - 1, Name: text(), Worker: text(), Token: uint64(number()), Value: number()}
		c.Spec = api.Spec{Name: text(), Tenant: "a", Priority: int(number()), Delay: number(), Base: number(), Cap: number(), Attempts: int(number()), Lease: number(), Cron: pick(r, texts), Catch: int(number())}
		for range r.Intn(3) {
			c.Spec.Deps = append(c.Spec.Deps, text())
		}
		if r.Intn(2) == 0 { // a spec that may be, but for one field
			s := job(text(), "done")
			switch r.Intn(6) {
			case 0:
				s.Lease = number()
			case 1:
				s.Delay = number()
			case 2:
				s.Attempts = int(number())
			case 3:
				s.Deps[0] = text()
			case 4:
				s.Tenant = text()
			}
			c.Spec = s
		}
		if c.Kind == api.Tick && c.Value > p.m.now && c.Value <= last && p.m.now < 100 && r.Intn(500) > 0 {
			continue // time would be at its end too early
		}
		p.same(c)
		holds(t, "anything", p.s, p.m)
	}
}

// TestSettled: where workers ask and time goes on, every job is done, dead or cancelled in the end (P5).
func TestSettled(t *testing.T) {
	for seed := range 60 {
		r := rand.New(rand.NewSource(int64(seed)))
		p := fresh(t, 0, 128)
		for range 300 {
			p.same(chanceCommand(r, p.m, names()))
		}
		for _, j := range p.m.those(func(j *api.Job) bool { return j.State == api.Template }) {
			p.cancel(j.Spec.Name, api.OK)
		}
		open := func(j *api.Job) bool { return !final(j) }
		for range 1000 {
			if len(p.m.those(open)) == 0 {
				break
			}
			if a := p.same(api.Command{Kind: api.Lease, Worker: "w"}); a.Error == api.OK && r.Intn(3) > 0 {
				p.same(api.Command{Kind: pick(r, []int{api.Complete, api.Fail}), Name: a.Name, Token: a.Token})
			}
			p.same(api.Command{Kind: api.Tick, Value: p.m.now + r.Int63n(4)})
		}
		holds(t, "settled", p.s, p.m)
		for j := range p.s.Jobs() {
			if open(&j) || j.Worker != "" || j.Due != 0 {
				t.Fatalf("seed %d: %+v", seed, j)
			}
		}
	}
}
