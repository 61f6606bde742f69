package command_test

import (
	"math/rand"
	"slices"
	"testing"

	"compline/api"
	"compline/command"
)

// TestOnly: of each kind, and of kinds that there aren't, a command with each field.
func TestOnly(t *testing.T) {
	for kind := range api.Kinds {
		for _, c := range []api.Command{{Kind: kind}, full(kind)} {
			if o := command.Only(c); !alikeCommands(o, only(c)) {
				t.Errorf("%+v: %+v", c, o)
			}
		}
	}
	for _, kind := range noKinds() {
		if o := command.Only(full(kind)); !alikeCommands(o, api.Command{Kind: kind}) {
			t.Errorf("%d: %+v", kind, o)
		}
	}
	for _, x := range []struct {
		kind int
		want api.Command
	}{
		{api.Nothing, api.Command{}},
		{api.Submit, api.Command{Kind: 1, Spec: fullSpec()}},
		{api.Lease, api.Command{Kind: 2, Worker: "c"}},
		{api.Renew, api.Command{Kind: 3, Name: "ab", Token: 300}},
		{api.Complete, api.Command{Kind: 4, Name: "ab", Token: 300, Value: -5}},
		{api.Fail, api.Command{Kind: 5, Name: "ab", Token: 300}},
		{api.Cancel, api.Command{Kind: 6, Name: "ab"}},
		{api.Requeue, api.Command{Kind: 7, Name: "ab"}},
		{api.Forget, api.Command{Kind: 8, Name: "ab"}},
		{api.Tick, api.Command{Kind: 9, Value: -5}},
	} {
		if o := command.Only(full(x.kind)); !alikeCommands(o, x.want) {
			t.Errorf("%d: %+v, not %+v", x.kind, o, x.want)
		}
	}
}

// TestOnlyChance: any command, and once more the same; what it is told as has just the same bytes.
func TestOnlyChance(t *testing.T) {
	r := rand.New(rand.NewSource(5))
	for range 30000 {
		c := chanceCommand(r)
		o := command.Only(c)
		if !alikeCommands(o, only(c)) || !alikeCommands(command.Only(o), o) {
			t.Fatalf("%+v: %+v", c, o)
		}
		b, e := command.Bytes(api.Request{C: c})
		d, f := command.Bytes(api.Request{C: o})
		if e != f || !slices.Equal(b, d) {
			t.Fatalf("%+v: %v, %d, not %v, %d", c, d, f, b, e)
		}
	}
}

// TestOnlyMemory: what is handed in isn't changed or kept, its spare room neither, and answers are new memory.
func TestOnlyMemory(t *testing.T) {
	deps := []string{"g", "", "hi", "spare", "room"}
	for n := range 4 {
		c := full(api.Submit)
		c.Spec.Deps = deps[:n]
		a, b := command.Only(c), command.Only(c)
		for i := range a.Spec.Deps {
			a.Spec.Deps[i] = "other"
		}
		_ = append(a.Spec.Deps, "more")
		if !slices.Equal(deps, []string{"g", "", "hi", "spare", "room"}) || !slices.Equal(b.Spec.Deps, deps[:n]) {
			t.Error(n, deps, b.Spec.Deps)
		}
	}
	c := full(api.Submit)
	o := command.Only(c)
	c.Spec.Deps[0] = "other"
	if !slices.Equal(o.Spec.Deps, []string{"g", "", "hi"}) {
		t.Error("what was handed in is kept:", o.Spec.Deps)
	}
}
