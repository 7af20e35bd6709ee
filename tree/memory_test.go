package tree

import (
	"strings"
	"testing"

	"casement/api"
	"casement/part"
)

// spoil changes all that is in a spec's lists, their spare room too.
func spoil(s api.Spec) {
	for _, n := range s.Nodes {
		spoilKids(n.Kids)
		for i := range n.Wraps[:cap(n.Wraps)] {
			n.Wraps[:cap(n.Wraps)][i] = api.Wrap{Kind: 77, Text: "spoilt"}
		}
	}
	for i := range s.Nodes[:cap(s.Nodes)] {
		s.Nodes[:cap(s.Nodes)][i] = api.Node{Kind: 99, Name: "spoilt", Kids: []int{-5}}
	}
}

func spoilKids(l []int) {
	for i := range l[:cap(l)] {
		l[:cap(l)][i] = -77
	}
}

// roomy is a spec whose lists all have spare room, with marks in it.
func roomy(s api.Spec) api.Spec {
	nodes := make([]api.Node, 0, len(s.Nodes)+2)
	for _, n := range s.Nodes {
		kids := make([]int, 0, len(n.Kids)+2)
		n.Kids = append(append(kids, n.Kids...), 500, 501)[:len(n.Kids)]
		wraps := make([]api.Wrap, 0, len(n.Wraps)+2)
		n.Wraps = append(append(wraps, n.Wraps...), api.Wrap{Kind: 50}, api.Wrap{Kind: 51})[:len(n.Wraps)]
		nodes = append(nodes, n)
	}
	return api.Spec{Nodes: append(nodes, api.Node{Name: "spare"}, api.Node{Name: "room"})[:len(s.Nodes)]}
}

// whole is a spec with all the spare room of its lists, as a copy.
func whole(s api.Spec) api.Spec {
	var nodes []api.Node
	for _, n := range s.Nodes[:cap(s.Nodes)] {
		n.Kids = append([]int{}, n.Kids[:cap(n.Kids)]...)
		n.Wraps = append([]api.Wrap{}, n.Wraps[:cap(n.Wraps)]...)
		nodes = append(nodes, n)
	}
	return api.Spec{Nodes: nodes}
}

// calls are all that take a spec, each with a list of what it answers.
func calls(t *testing.T) map[string]func(s api.Spec) []api.Spec {
	t.Helper()
	one := func(s api.Spec, e api.Errno) []api.Spec {
		if e != api.OK {
			t.Fatalf("a call that must be well: %d", int(e))
		}
		return []api.Spec{s}
	}
	return map[string]func(s api.Spec) []api.Spec{
		"Check": func(s api.Spec) []api.Spec { Check(s); return nil },
		"Same":  func(s api.Spec) []api.Spec { Same(s, s); return nil },
		"Walk":  func(s api.Spec) []api.Spec { stops(Walk(s), -1); ups(Up(s), -1); return nil },
		"Find":  func(s api.Spec) []api.Spec { Find(s, "b"); Named(s, "a/b"); Parent(s, len(s.Nodes)-1); return nil },
		"Path":  func(s api.Spec) []api.Spec { l, _ := Path(s, len(s.Nodes)-1); spoilKids(l); return nil },
		"Made":  func(s api.Spec) []api.Spec { l, _ := Made(s); clear(l[:cap(l)]); return nil },
		"Norm":  func(s api.Spec) []api.Spec { return one(Norm(s)) },
		"Cut":   func(s api.Spec) []api.Spec { return append(one(Cut(s, 0)), one(Cut(s, len(s.Nodes)-1))...) },
		"Take":  func(s api.Spec) []api.Spec { return one(Take(s, len(s.Nodes)-1)) },
		"Put":   func(s api.Spec) []api.Spec { return append(one(Put(s, 0, 0, s)), one(Put(s, 0, 1, s))...) },
		"Move": func(s api.Spec) []api.Spec {
			return append(one(Move(s, 1, 0, 0)), one(Move(s, len(s.Nodes)-1, 0, 0))...)
		},
		"refused": func(s api.Spec) []api.Spec {
			Put(s, 0, 0, api.Spec{})
			Put(s, 1, 99, s)
			Move(s, 1, 0, -1)
			Move(s, 1, 0, 99)
			Move(s, 1, 1, 0)
			Take(s, 0)
			return nil
		},
	}
}

// TestMemory: what is handed in is only read, and not kept; what is answered shares nothing with it, and no two lists of it anything.
func TestMemory(t *testing.T) {
	for _, thrown := range thrownSpecs(95, 92) {
		if len(thrown.Nodes) < 3 {
			continue
		}
		for what, call := range calls(t) {
			s := roomy(thrown)
			before := whole(s)
			answers := call(s)
			if !alike(whole(s), before) {
				t.Fatalf("%s changed what was handed in: %v, want %v", what, whole(s), before)
			}
			for _, a := range answers {
				holdApart(t, what, a)
				spoil(a)
				if !alike(whole(s), before) {
					t.Fatalf("%s: what is answered shares memory with what was handed in", what)
				}
			}
			answers = call(s)
			var kept []api.Spec
			for _, a := range answers {
				kept = append(kept, whole(a))
			}
			spoil(s)
			for i, a := range answers {
				if !alike(whole(a), kept[i]) {
					t.Fatalf("%s: what is answered changed with what was handed in", what)
				}
			}
		}
	}
}

// holdApart fills each list of an answer to its end, and asks whether another one changed by that.
func holdApart(t *testing.T, what string, s api.Spec) {
	t.Helper()
	for i, n := range s.Nodes {
		for at := range n.Kids[:cap(n.Kids)] {
			n.Kids[:cap(n.Kids)][at] = 1000 + i
		}
		for at := range n.Wraps[:cap(n.Wraps)] {
			n.Wraps[:cap(n.Wraps)][at] = api.Wrap{Number: 1000 + i}
		}
	}
	for i, n := range s.Nodes {
		for _, kid := range n.Kids[:cap(n.Kids)] {
			if kid != 1000+i {
				t.Fatalf("%s: two lists of Kids share memory", what)
			}
		}
		for _, w := range n.Wraps[:cap(n.Wraps)] {
			if w.Number != 1000+i {
				t.Fatalf("%s: two lists of wrappers share memory", what)
			}
		}
	}
}

// TestMadeMemory: parts stay as they are, whatever becomes of the spec and of the list.
func TestMadeMemory(t *testing.T) {
	s := roomy(api.Spec{Nodes: []api.Node{
		{Kind: api.Box, Name: "a", Kids: []int{2, 1}, Wraps: []api.Wrap{{Kind: api.WrapName, Text: "w"}}},
		{Kind: api.Label, Name: "b"}, {Kind: api.Label, Name: "c"},
	}})
	made, _ := Made(s)
	first := made[0]
	spoil(s)
	clear(made)
	parts, e := part.Parts(first)
	if e != api.OK || len(parts) != 2 || first.Name() != "w" || parts[0].Name() != "c" || parts[1].Name() != "b" {
		t.Errorf("the root: %q, %v, %d", first.Name(), parts, int(e))
	}
}

// TestAnswersEachTime: one call answers the same again, and other memory.
func TestAnswersEachTime(t *testing.T) {
	for _, s := range thrownSpecs(96, 46) {
		a, _ := Norm(s)
		b, _ := Norm(s)
		if !Same(a, b) {
			t.Fatalf("Norm of %v: %v, then %v", s, a, b)
		}
		want := whole(b)
		spoil(a)
		if !alike(whole(b), want) {
			t.Fatalf("two answers share memory")
		}
		p, _ := Path(s, len(s.Nodes)-1)
		q, _ := Path(s, len(s.Nodes)-1)
		spoilKids(p)
		if q[0] != 0 || q[len(q)-1] != len(s.Nodes)-1 {
			t.Fatalf("two paths share memory: %v", q)
		}
	}
}

// TestGreatest: the greatest specs with the longest texts are walked, made and changed.
func TestGreatest(t *testing.T) {
	s := flat(1024)
	text := strings.Repeat("ab\n", 1<<16/3)
	for i := range s.Nodes {
		if i%32 == 31 { // few of them measure their texts, which takes long
			s.Nodes[i].Kind = api.Label
		}
		s.Nodes[i].Text = text
		for range 16 {
			s.Nodes[i].Wraps = append(s.Nodes[i].Wraps, api.Wrap{Kind: api.WrapFocus, Number: i})
		}
	}
	if e := Check(s); e != api.OK {
		t.Fatalf("Check: %d", int(e))
	}
	moved, e := Move(s, 1023, 0, 0)
	if e != api.OK || moved.Nodes[1].Wraps[15].Number != 1023 || moved.Nodes[1].Text != text {
		t.Errorf("Move: %d", int(e))
	}
	if got := stops(Walk(s), -1); len(got) != 1024 {
		t.Errorf("Walk: %d", len(got))
	}
	if made, e := Made(s); e != api.OK || len(made) != 1024 {
		t.Errorf("Made: %d, %d", len(made), int(e))
	}
}
