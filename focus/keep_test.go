package focus

import (
	"strings"
	"testing"

	"casement/api"
)

// row is a Box of Buttons of these names, numbered from 1 on.
func row(names ...string) api.Spec {
	var l []api.Spec
	for _, name := range names {
		l = append(l, button(name))
	}
	return box(l...)
}

// turned is a spec of which one node has another order.
func turned(s api.Spec, node, order int) api.Spec {
	return changed(s, node, func(n *api.Node) { n.Order = order })
}

func rewrapped(s api.Spec, node int, l ...api.Wrap) api.Spec {
	return changed(s, node, func(n *api.Node) { n.Wraps = l })
}

func gone(s api.Spec, node int) api.Spec {
	return changed(s, node, func(n *api.Node) { n.Hidden = true })
}

// keeps asks where the focus goes; -1: nowhere.
func keeps(t *testing.T, name string, old, now api.Spec, node, want int) {
	t.Helper()
	for _, r := range []api.Rect{wide(), {}, rect(3, 3, 2, 2)} { // shown or not makes no difference
		if to, is, e := Keep(old, now, r, node); to != max(want, 0) || is != (want >= 0) || e != api.OK {
			t.Errorf("Keep of %s: %d, %v, %d; %d", name, to, is, e, want)
		}
		keepAgrees(t, old, now, r, node)
	}
}

// P18.4: the chapter's example.
func TestExampleOfKeep(t *testing.T) {
	without := box(button("a"), ordered(button("b"), 2), label(""), ordered(button("d"), -1))
	keeps(t, "T and T without c", tee(), without, 3, 2)
	keeps(t, "T and T without c, b", tee(), without, 2, 2)
	keeps(t, "T and T without c, a", tee(), without, 1, 1)
	keeps(t, "T without c and T", without, tee(), 1, 1)
}

// P18.4: the first node of the same name, wherever it is now.
func TestSameName(t *testing.T) {
	old := row("a", "b", "c", "d")
	for name, x := range map[string]struct {
		now  api.Spec
		want int
	}{
		"where it was":                        {old, 3},
		"another number":                      {row("d", "c", "b", "a"), 2},
		"in front of all":                     {row("c", "a", "b"), 1},
		"behind those ahead of it":            {row("b", "a", "x", "x", "x", "x", "c"), 7},
		"alone":                               {button("c"), 0},
		"deep within":                         {box(label("x"), stack(columns(row("x"), row("c")))), 7},
		"another kind":                        {box(one(api.Field), with(scroll(0, 0, button("b")), func(n *api.Node) { n.Name = "c" })), 2},
		"a Label that is made to":             {box(button("b"), wrapped(label("c"), focusing(0))), 2},
		"twice":                               {row("x", "c", "c"), 2},
		"twice, the last one first by order":  {turned(row("x", "c", "c"), 3, 1), 3},
		"twice, the first one by order":       {turned(turned(row("x", "c", "c"), 3, 2), 2, 1), 2},
		"twice, the first one can't":          {box(label("c"), button("b"), button("c")), 3},
		"twice, the first one is hidden":      {box(hidden(button("c")), button("b"), button("c")), 3},
		"twice, kids in no order":             {with(row("c", "b", "c"), func(n *api.Node) { n.Kids = []int{3, 2, 1} }), 3},
		"of an order, behind":                 {turned(turned(row("a", "b", "c"), 1, 1), 3, 9), 3},
		"another name about it":               {rewrapped(row("b", "c"), 2, called("b")), 2},
		"its name about another one":          {rewrapped(row("b", "x", "c"), 2, called("c")), 3},
		"beside names that begin like it":     {row("cc", "C", "", "b", " c", "c"), 6},
		"with kids of its own, of its name":   {with(scroll(0, 0, button("c")), func(n *api.Node) { n.Name = "c" }), 0},
		"with a kid of its name, which leads": {with(scroll(0, 0, ordered(button("c"), 1)), func(n *api.Node) { n.Name = "c" }), 1},
	} {
		keeps(t, name, old, x.now, 3, x.want)
	}
	// the Name of the node counts, not that of a wrapper
	keeps(t, "a WrapName of old's", rewrapped(row("a", "b"), 2, called("a")), row("b", "a"), 2, 1)
	keeps(t, "the longest name", row("a", strings.Repeat("n", 64)), row("x", strings.Repeat("n", 63), strings.Repeat("n", 64)), 2, 3)
	// of several of one name in old, the first one of now
	twice := row("a", "b", "a")
	keeps(t, "twice in old, the last one", twice, twice, 3, 1)
	keeps(t, "twice in old, the first one", twice, twice, 1, 1)
	keeps(t, "twice in old, by the order", twice, turned(twice, 3, 1), 1, 3)
}

// P18.4: where its name is gone, the nearest one ahead of it in the old order whose name is there; else the first one.
func TestAhead(t *testing.T) {
	old := row("a", "b", "c", "d")
	for name, x := range map[string]struct {
		now        api.Spec
		node, want int
	}{
		"the one ahead":                          {row("a", "b", "d"), 3, 2},
		"the one ahead, among others":            {row("d", "a", "x", "b"), 3, 4},
		"the nearest of three":                   {row("a", "b", "c"), 4, 3},
		"the nearest of three, turned":           {row("c", "b", "a"), 4, 1},
		"the one ahead gone, too":                {row("a", "d"), 3, 1},
		"the one ahead gone, too, behind":        {row("d", "a"), 3, 2},
		"two ahead gone":                         {row("x", "a"), 4, 2},
		"all ahead gone":                         {row("x", "d"), 3, 1},
		"all ahead gone, by the order":           {turned(row("x", "d"), 2, 1), 3, 2},
		"all ahead gone, those behind there":     {row("x", "y", "d"), 3, 1},
		"all gone":                               {row("x", "y"), 3, 1},
		"all gone, another kind":                 {scroll(0, 0, row("x")), 3, 0},
		"nobody ahead":                           {row("b", "c", "d"), 1, 1},
		"nobody ahead, not round":                {row("c", "d"), 1, 1},
		"nobody ahead, by the order":             {turned(row("c", "b"), 2, 5), 1, 2},
		"nobody at all":                          {box(), 3, -1},
		"nobody that can be focused":             {box(label("c"), hidden(button("b")), ordered(button("a"), -1)), 3, -1},
		"a Label":                                {label("c"), 3, -1},
		"a hidden one":                           {hidden(button("c")), 3, -1},
		"a half":                                 {wrapped(row("c"), half()), 3, -1},
		"its name can't be focused":              {box(label("c"), button("a"), button("b")), 3, 3},
		"its name is hidden":                     {gone(row("a", "b", "c"), 3), 3, 2},
		"its name is hidden, with all about it":  {box(button("a"), hidden(box(button("c"))), button("b")), 3, 4},
		"its name is below 0":                    {turned(row("a", "b", "c"), 3, -1), 3, 2},
		"its name is a half":                     {rewrapped(row("a", "b", "c"), 3, half()), 3, 2},
		"its name's ability is hidden":           {rewrapped(row("c", "a", "b"), 1, hide(api.Focuses)), 3, 3},
		"its name in what can't hold":            {box(wrapped(row("c"), hide(api.Holds)), button("a")), 3, 3},
		"the one ahead can't be focused":         {box(label("b"), button("x"), button("a")), 3, 3},
		"the one ahead twice":                    {row("x", "b", "b"), 3, 2},
		"the one ahead twice, by the order":      {turned(row("x", "b", "b"), 3, 1), 3, 3},
		"its name about another one":             {rewrapped(row("x", "b", "y"), 3, called("c")), 3, 2},
		"the name ahead about another one":       {rewrapped(row("x", "y", "a"), 2, called("b")), 3, 3},
		"names that begin like it":               {row("cc", "b", "C"), 3, 2},
		"a name that is empty is none's":         {row("", "a"), 3, 2},
		"names that are empty, and no other one": {row("", ""), 3, 1},
	} {
		keeps(t, name, old, x.now, x.node, x.want)
	}
}

// P18.4: ahead is what old's order of the focus says, not the walk, and of nodes alone that could be focused.
func TestAheadInOrder(t *testing.T) {
	// c, b, a
	keeps(t, "a gone: b", tee(), row("c", "b"), 1, 2)
	keeps(t, "a and b gone: c", tee(), row("x", "c"), 1, 2)
	keeps(t, "b gone: c, not a", tee(), row("a", "c"), 2, 2)
	keeps(t, "b and c gone: the first, not a", tee(), row("x", "a"), 2, 1)
	keeps(t, "c gone: nobody ahead", tee(), row("x", "a", "b"), 3, 1)
	keeps(t, "kids in no order", with(row("a", "b", "c"), func(n *api.Node) { n.Kids = []int{3, 2, 1} }), row("x", "a", "c"), 2, 3)
	for name, old := range map[string]api.Spec{
		"a Label":       box(button("a"), label("b"), button("c")),
		"a hidden one":  gone(row("a", "b", "c"), 2),
		"one below 0":   turned(row("a", "b", "c"), 2, -1),
		"a half":        rewrapped(row("a", "b", "c"), 2, half()),
		"a hidden way":  rewrapped(row("a", "b", "c"), 2, hide(api.Focuses)),
		"one behind it": row("a", "x", "c", "b"),
	} {
		keeps(t, name+" is not ahead", old, row("b", "a"), 3, 2)
		if name != "one behind it" {
			keeps(t, name+" has no focus to be kept", old, row("b", "a"), 2, -1)
			keeps(t, name+" has no focus to be kept", old, old, 2, -1)
		}
	}
}

// P18.4: empty names are no names, of the node, of those ahead, and of the new ones.
func TestEmptyNames(t *testing.T) {
	keeps(t, "its own, with one ahead", row("a", "", "c"), row("x", "", "a"), 2, 3)
	keeps(t, "its own, the one ahead gone", row("a", "", "c"), row("x", "", "c"), 2, 1)
	keeps(t, "its own, nobody ahead", row("", "b"), row("x", "", "b"), 1, 1)
	keeps(t, "the one ahead's", row("a", "", "c"), row("", "x", "a"), 3, 3)
	keeps(t, "all ahead", row("", "", "c"), row("x", "", ""), 3, 1)
	keeps(t, "all", row("", ""), row("x", ""), 2, 1)
	keeps(t, "the same spec", row("x", "", "b"), row("x", "", "b"), 2, 1)
	keeps(t, "the same spec, nobody ahead", row("", "b"), row("", "b"), 1, 1)
	keeps(t, "the same spec, the first one another", turned(row("", "b"), 2, 1), turned(row("", "b"), 2, 1), 1, 2)
	keeps(t, "with a WrapName", rewrapped(row("x", ""), 2, called("a")), row("y", "a", "x"), 2, 3)
}

// P18.4: where nobody had the focus, nobody has it now.
func TestNobodysFocus(t *testing.T) {
	for _, now := range []api.Spec{tee(), row("a", "b", ""), button(""), label("")} {
		keeps(t, "-1", tee(), now, -1, -1)
		keeps(t, "a Box", tee(), now, 0, -1)
		keeps(t, "a Label", tee(), now, 4, -1)
		keeps(t, "an order below 0", tee(), now, 5, -1)
		keeps(t, "of a Label alone", label("a"), now, 0, -1)
		keeps(t, "-1 of a Label alone", label("a"), now, -1, -1)
	}
}

// P18.4: old and new spec need have nothing alike: each one's numbers are its own.
func TestUnlikeNumbers(t *testing.T) {
	many := row("a", "b", "c", "d", "e", "f", "g", "h")
	keeps(t, "many and one", many, button("h"), 8, 0)
	keeps(t, "many and another one", many, button("x"), 8, 0)
	keeps(t, "one and many", button("h"), many, 0, 8)
	keeps(t, "many and few", many, row("x", "e"), 8, 2)
	if to, is, e := Keep(button("h"), many, wide(), 1); to != 0 || is || e != api.ErrNode {
		t.Errorf("Keep of a number of now's alone: %d, %v, %d", to, is, e)
	}
	if to, is, e := Keep(many, button("h"), wide(), 9); to != 0 || is || e != api.ErrNode {
		t.Errorf("Keep of no number: %d, %v, %d", to, is, e)
	}
}

// P18.7: Keep of a spec and itself.
func TestKeepOfItself(t *testing.T) {
	for _, s := range []api.Spec{tee(), row("a", "b", "c"), row("a", "b", "a", "", "b", ""), box(scroll(0, 0, row("a", "b")), row("b", "c"), ordered(button("c"), 4))} {
		keepsItself(t, s, wide())
	}
}
