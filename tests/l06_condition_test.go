package tests

import (
	"fmt"
	"math"
	"math/rand"
	"slices"
	"strings"
	"testing"

	"loop.example/g03407/impl"
)

// mostCond is the largest number of nodes that the document allows.
const mostCond = 30

func TestConstantsOfConditions(t *testing.T) {
	if impl.CondTrue != 0 || impl.CondIs != 1 || impl.CondNot != 2 || impl.CondAnd != 3 || impl.CondOr != 4 {
		t.Error("the kinds of nodes are others")
	}
	if impl.MaxCond != mostCond {
		t.Errorf("MaxCond = %d", impl.MaxCond)
	}
}

// condTree is a condition as a tree, for which the tests write out what the document says.
type condTree struct {
	node  impl.CondNode
	parts []condTree
}

func condTrue() condTree { return condTree{node: impl.CondNode{Kind: impl.CondTrue}} }

func condIs(option string, value string) condTree {
	return condTree{node: impl.CondNode{Kind: impl.CondIs, Option: option, Value: value}}
}

func condNot(c condTree) condTree {
	return condTree{node: impl.CondNode{Kind: impl.CondNot}, parts: []condTree{c}}
}

func condAnd(a condTree, b condTree) condTree {
	return condTree{node: impl.CondNode{Kind: impl.CondAnd}, parts: []condTree{a, b}}
}

func condOr(a condTree, b condTree) condTree {
	return condTree{node: impl.CondNode{Kind: impl.CondOr}, parts: []condTree{a, b}}
}

// notTimes negates a condition n times.
func notTimes(n int, c condTree) condTree {
	for range n {
		c = condNot(c)
	}
	return c
}

// fromLeft joins conditions from the left.
func fromLeft(join func(condTree, condTree) condTree, l []condTree) condTree {
	c := l[0]
	for _, next := range l[1:] {
		c = join(c, next)
	}
	return c
}

// fromRight joins conditions from the right.
func fromRight(join func(condTree, condTree) condTree, l []condTree) condTree {
	c := l[len(l)-1]
	for i := len(l) - 2; i >= 0; i-- {
		c = join(l[i], c)
	}
	return c
}

// severalConds returns n conditions of single nodes, no two of which are alike, the last ones negated.
func severalConds(n int, negated int) []condTree {
	var l []condTree
	for i := range n {
		c := condIs(fmt.Sprintf("O%d", i), "X")
		if i >= n-negated {
			c = condNot(c)
		}
		l = append(l, c)
	}
	return l
}

// list returns the nodes in postorder.
func (c condTree) list() []impl.CondNode {
	var l []impl.CondNode
	for _, p := range c.parts {
		l = append(l, p.list()...)
	}
	return append(l, c.node)
}

// isTrue reports whether the condition is fulfilled.
func (c condTree) isTrue(choice []impl.Pick) bool {
	switch c.node.Kind {
	case impl.CondIs:
		for _, p := range choice {
			if p.Option == c.node.Option && p.Value == c.node.Value {
				return true
			}
		}
		return false
	case impl.CondNot:
		return !c.parts[0].isTrue(choice)
	case impl.CondAnd:
		return c.parts[0].isTrue(choice) && c.parts[1].isTrue(choice)
	case impl.CondOr:
		return c.parts[0].isTrue(choice) || c.parts[1].isTrue(choice)
	}
	return true
}

// enclosed reports whether the document puts part i in parentheses: the five places.
func (c condTree) enclosed(i int) bool {
	operator, operand := c.node.Kind, c.parts[i].node.Kind
	switch {
	case operand == impl.CondOr && operator == impl.CondAnd:
		return true
	case operand == impl.CondOr && operator == impl.CondNot:
		return true
	case operand == impl.CondAnd && operator == impl.CondNot:
		return true
	case operand == impl.CondAnd && operator == impl.CondAnd && i == 1:
		return true
	case operand == impl.CondOr && operator == impl.CondOr && i == 1:
		return true
	}
	return false
}

// textOver returns the text of the condition with the texts of its parts.
func (c condTree) textOver(parts []string) string {
	switch c.node.Kind {
	case impl.CondIs:
		return c.node.Option + "=" + c.node.Value
	case impl.CondNot:
		return "!" + parts[0]
	case impl.CondAnd:
		return parts[0] + " & " + parts[1]
	case impl.CondOr:
		return parts[0] + " | " + parts[1]
	}
	return "TRUE"
}

// text returns the text that FormatCond must return.
func (c condTree) text() string {
	var parts []string
	for i, p := range c.parts {
		s := p.text()
		if c.enclosed(i) {
			s = "(" + s + ")"
		}
		parts = append(parts, s)
	}
	return c.textOver(parts)
}

// wrap puts n pairs of parentheses around a text.
func wrap(n int, s string) string { return strings.Repeat("(", n) + s + strings.Repeat(")", n) }

// texts returns all texts with exactly so many further pairs of parentheses, around the whole and the operands.
func (c condTree) texts(further int) []string {
	var all []string
	for around := range further + 1 {
		for _, s := range c.innerTexts(further - around) {
			all = append(all, wrap(around, s))
		}
	}
	return all
}

// innerTexts is texts without parentheses around the whole.
func (c condTree) innerTexts(further int) []string {
	var all []string
	switch len(c.parts) {
	case 0:
		if further == 0 {
			all = append(all, c.textOver(nil))
		}
	case 1:
		for _, s := range c.partTexts(0, further) {
			all = append(all, c.textOver([]string{s}))
		}
	case 2:
		for n := range further + 1 {
			for _, s := range c.partTexts(0, n) {
				for _, u := range c.partTexts(1, further-n) {
					all = append(all, c.textOver([]string{s, u}))
				}
			}
		}
	}
	return all
}

// partTexts returns the texts of part i, in the parentheses that it needs.
func (c condTree) partTexts(i int, further int) []string {
	l := c.parts[i].texts(further)
	if c.enclosed(i) {
		for k, s := range l {
			l[k] = wrap(1, s)
		}
	}
	return l
}

// looseText returns a text with further parentheses by chance, and how many parentheses and negations are around the operand that has the most.
func (c condTree) looseText(r *rand.Rand, most int) (string, int) {
	around := r.Intn(most + 1)
	deepest := 0
	var parts []string
	for i, p := range c.parts {
		s, depth := p.looseText(r, most)
		if c.enclosed(i) {
			s, depth = wrap(1, s), depth+1
		}
		if c.node.Kind == impl.CondNot {
			depth++
		}
		parts = append(parts, s)
		deepest = max(deepest, depth)
	}
	return wrap(around, c.textOver(parts)), deepest + around
}

// pushed replaces negations of operators and of negations until only single nodes are negated.
func (c condTree) pushed() condTree {
	if c.node.Kind != impl.CondNot || len(c.parts[0].parts) == 0 {
		var parts []condTree
		for _, p := range c.parts {
			parts = append(parts, p.pushed())
		}
		return condTree{node: c.node, parts: parts}
	}
	inner := c.parts[0]
	switch inner.node.Kind {
	case impl.CondNot:
		return inner.parts[0].pushed()
	case impl.CondAnd:
		return condOr(condNot(inner.parts[0]), condNot(inner.parts[1])).pushed()
	}
	return condAnd(condNot(inner.parts[0]), condNot(inner.parts[1])).pushed()
}

// treesOf returns all conditions with exactly n nodes and these leaves; [n] of the result.
func treesOf(n int, leaves []condTree) [][]condTree {
	all := [][]condTree{nil, leaves}
	for size := 2; size <= n; size++ {
		var l []condTree
		for _, c := range all[size-1] {
			l = append(l, condNot(c))
		}
		for first := 1; first < size-1; first++ {
			for _, a := range all[first] {
				for _, b := range all[size-1-first] {
					l = append(l, condAnd(a, b), condOr(a, b))
				}
			}
		}
		all = append(all, l)
	}
	return all
}

// chanceTree returns a condition with n nodes by chance, of the options A and B and the values X and Y.
func chanceTree(r *rand.Rand, n int) condTree {
	switch {
	case n == 1 && r.Intn(6) == 0:
		return condTrue()
	case n == 1:
		return condIs([]string{"A", "B"}[r.Intn(2)], []string{"X", "Y"}[r.Intn(2)])
	case n == 2 || r.Intn(4) == 0:
		return condNot(chanceTree(r, n-1))
	}
	first := 1 + r.Intn(n-2)
	join := condAnd
	if r.Intn(2) == 0 {
		join = condOr
	}
	return join(chanceTree(r, first), chanceTree(r, n-1-first))
}

// someTrees returns all small conditions and some large ones, of up to MaxCond nodes.
func someTrees() []condTree {
	var all []condTree
	for _, l := range treesOf(6, []condTree{condTrue(), condIs("A", "X")}) {
		all = append(all, l...)
	}
	for _, l := range treesOf(5, []condTree{condIs("B", "Y"), condIs("A", "X"), condIs("A", "Y")}) {
		all = append(all, l...)
	}
	r := rand.New(rand.NewSource(6))
	for n := 1; n <= mostCond; n++ {
		for range 40 {
			all = append(all, chanceTree(r, n))
		}
	}
	return append(all, treesOfSize(mostCond)...)
}

// treesOfSize returns conditions with n nodes, at least 4, that grow in various ways.
func treesOfSize(n int) []condTree {
	leaf := condIs("A", "X")
	half := severalConds((n+1)/2, 0)
	l := []condTree{notTimes(n-1, leaf), notTimes(n-1, condTrue())}
	for _, join := range []func(condTree, condTree) condTree{condAnd, condOr} {
		for _, chain := range []condTree{fromLeft(join, half), fromRight(join, half)} {
			l = append(l, notTimes(n-len(chain.list()), chain))
		}
		l = append(l, join(notTimes(n-3, leaf), condIs("B", "Y")), join(condTrue(), notTimes(n-3, leaf)))
	}
	return l
}

// someChoices returns all sets of picks of two options and two values, and other choices.
func someChoices() [][]impl.Pick {
	picks := []impl.Pick{{Option: "A", Value: "X"}, {Option: "A", Value: "Y"}, {Option: "B", Value: "X"}, {Option: "B", Value: "Y"}}
	var all [][]impl.Pick
	for set := range 16 {
		var choice []impl.Pick
		for i, p := range picks {
			if set>>i&1 == 1 {
				choice = append(choice, p)
			}
		}
		all = append(all, choice)
	}
	return append(all,
		[]impl.Pick{},
		[]impl.Pick{{Option: "A", Value: "X"}, {Option: "A", Value: "X"}},
		[]impl.Pick{{Option: "A", Value: "Y"}, {Option: "B", Value: "Y"}, {Option: "A", Value: "X"}},
		[]impl.Pick{{Option: "C", Value: "X"}, {Option: "X", Value: "A"}, {Option: "TRUE", Value: "TRUE"}},
		[]impl.Pick{{}, {Option: "A"}, {Value: "X"}, {Option: "A=X"}, {Option: "a", Value: "x"}, {Option: "A ", Value: "X"}, {Option: "A", Value: "X\x00"}},
		[]impl.Pick{{Option: "\xff", Value: "A=X"}, {Option: "B", Value: "Y"}},
	)
}

// sameNodes reports whether a result is this list and true, or, for no list at all, an empty one and false.
func sameNodes(got []impl.CondNode, ok bool, want []impl.CondNode) bool {
	return ok == (len(want) > 0) && slices.Equal(got, want)
}

// checkNoCond checks that a list is taken as no condition by all functions.
func checkNoCond(t *testing.T, l []impl.CondNode) {
	t.Helper()
	if impl.IsCond(l) {
		t.Errorf("IsCond(%.300q)", fmt.Sprint(l))
	}
	for _, choice := range [][]impl.Pick{nil, {{Option: "A", Value: "X"}, {Option: "B", Value: "Y"}}, {{}}} {
		if impl.Holds(l, choice) {
			t.Errorf("Holds(%.300q, %v)", fmt.Sprint(l), choice)
		}
	}
	if s := impl.FormatCond(l); s != "" {
		t.Errorf("FormatCond(%.300q) = %q", fmt.Sprint(l), s)
	}
	if got, ok := impl.NegateCond(l); ok || len(got) != 0 {
		t.Errorf("NegateCond(%.300q) = %v, %v", fmt.Sprint(l), got, ok)
	}
	if got := impl.OptionsIn(l); len(got) != 0 {
		t.Errorf("OptionsIn(%.300q) = %q", fmt.Sprint(l), got)
	}
}

// checkNoText checks that a text is that of no condition.
func checkNoText(t *testing.T, s string) {
	t.Helper()
	if got, ok := impl.ParseCond(s); ok || len(got) != 0 {
		t.Errorf("ParseCond(%.300q) = %v, %v", s, got, ok)
	}
}

// checkText checks that a text is that of a condition.
func checkText(t *testing.T, s string, c condTree) {
	t.Helper()
	if got, ok := impl.ParseCond(s); !sameNodes(got, ok, c.list()) {
		t.Errorf("ParseCond(%.300q) = %v, %v, not %v", s, got, ok, c.list())
	}
}

// checkCond checks all that is said of a condition.
func checkCond(t *testing.T, c condTree) {
	t.Helper()
	l := c.list()
	if !impl.IsCond(l) {
		t.Errorf("IsCond(%v) is false", l)
	}
	if got := impl.FormatCond(l); got != c.text() {
		t.Errorf("FormatCond(%v) = %q, not %q", l, got, c.text())
	}
	checkText(t, c.text(), c)
	if got, want := impl.OptionsIn(l), optionsByHand(l); !slices.Equal(got, want) {
		t.Errorf("OptionsIn(%v) = %q, not %q", l, got, want)
	}
	for _, choice := range someChoices() {
		if got := impl.Holds(l, choice); got != c.isTrue(choice) {
			t.Errorf("Holds(%q, %v) is %v", c.text(), choice, got)
		}
	}
	checkOpposite(t, c)
}

// optionsByHand returns the options of a condition, without those that also stand before.
func optionsByHand(l []impl.CondNode) []string {
	var options []string
	for i, n := range l {
		alike := func(m impl.CondNode) bool { return m.Kind == impl.CondIs && m.Option == n.Option }
		if n.Kind == impl.CondIs && slices.IndexFunc(l, alike) == i {
			options = append(options, n.Option)
		}
	}
	return options
}

// checkOpposite checks the opposite of a condition and the opposite of that.
func checkOpposite(t *testing.T, c condTree) {
	t.Helper()
	l, want := c.list(), condNot(c).pushed().list()
	if len(want) > mostCond {
		want = nil
	}
	got, ok := impl.NegateCond(l)
	if !sameNodes(got, ok, want) {
		t.Errorf("NegateCond(%q) = %v, %v, not %v", c.text(), got, ok, want)
	}
	if !ok {
		return
	}
	for _, choice := range someChoices() {
		if impl.Holds(got, choice) == impl.Holds(l, choice) {
			t.Errorf("%q and its opposite %q are alike for %v", c.text(), impl.FormatCond(got), choice)
		}
	}
	back := c.pushed().list()
	if len(back) > mostCond {
		back = nil
	}
	if twice, ok := impl.NegateCond(got); !sameNodes(twice, ok, back) {
		t.Errorf("the opposite of the opposite of %q is %v, %v, not %v", c.text(), twice, ok, back)
	}
}

func TestConditions(t *testing.T) {
	for _, c := range someTrees() {
		checkCond(t, c)
	}
}

func TestShortLists(t *testing.T) {
	leaves := []condTree{condTrue(), condIs("A", "X")}
	conds := map[string]bool{}
	for _, l := range treesOf(6, leaves) {
		for _, c := range l {
			conds[fmt.Sprint(c.list())] = true
		}
	}
	nodes := []impl.CondNode{leaves[0].node, leaves[1].node, {Kind: impl.CondNot}, {Kind: impl.CondAnd}, {Kind: impl.CondOr}}
	lists, last := 0, [][]impl.CondNode{nil}
	for range 7 {
		var next [][]impl.CondNode
		for _, l := range last {
			if lists++; impl.IsCond(l) != conds[fmt.Sprint(l)] {
				t.Errorf("IsCond(%v) is %v", l, impl.IsCond(l))
			}
			if impl.IsCond(l) != (impl.FormatCond(l) != "") {
				t.Errorf("FormatCond(%v) = %q", l, impl.FormatCond(l))
			}
			for _, n := range nodes {
				next = append(next, append(slices.Clone(l), n))
			}
		}
		last = next
	}
	if lists != 1+5+25+125+625+3125+15625 {
		t.Errorf("%d lists", lists)
	}
}

// condNodes returns nodes of these kinds; each CondIs is A=X.
func condNodes(kinds ...int) []impl.CondNode {
	var l []impl.CondNode
	for _, k := range kinds {
		n := impl.CondNode{Kind: k}
		if k == impl.CondIs {
			n.Option, n.Value = "A", "X"
		}
		l = append(l, n)
	}
	return l
}

// unfitNodes returns nodes that are in no condition.
func unfitNodes() []impl.CondNode {
	var l []impl.CondNode
	for _, kind := range []int{-1, 5, 6, 1 << 32, 1<<32 + impl.CondNot, math.MinInt, math.MaxInt, -impl.CondOr} {
		l = append(l, impl.CondNode{Kind: kind}, impl.CondNode{Kind: kind, Option: "A", Value: "X"})
	}
	for _, kind := range []int{impl.CondTrue, impl.CondNot, impl.CondAnd, impl.CondOr} {
		for _, s := range []string{"A", "TRUE", " ", "\x00", "\xff"} {
			l = append(l, impl.CondNode{Kind: kind, Option: s}, impl.CondNode{Kind: kind, Value: s}, impl.CondNode{Kind: kind, Option: s, Value: s})
		}
	}
	for _, s := range noCodes() {
		l = append(l, impl.CondNode{Kind: impl.CondIs, Option: "A", Value: s}, impl.CondNode{Kind: impl.CondIs, Option: s, Value: "X"}, impl.CondNode{Kind: impl.CondIs, Option: s, Value: s})
	}
	return l
}

func TestUnfitNodes(t *testing.T) {
	leaf := condIs("B", "Y").node
	for _, n := range unfitNodes() {
		checkNoCond(t, []impl.CondNode{n})
		checkNoCond(t, []impl.CondNode{n, {Kind: impl.CondNot}})
		checkNoCond(t, []impl.CondNode{leaf, n})
		checkNoCond(t, []impl.CondNode{n, leaf, {Kind: impl.CondAnd}})
		checkNoCond(t, []impl.CondNode{leaf, n, {Kind: impl.CondOr}})
		checkNoCond(t, []impl.CondNode{leaf, leaf, n})
		checkNoCond(t, []impl.CondNode{leaf, {Kind: impl.CondNot}, leaf, n, {Kind: impl.CondAnd}, {Kind: impl.CondOr}})
	}
}

func TestListsThatAreNoConditions(t *testing.T) {
	const yes, is, not, and, or = impl.CondTrue, impl.CondIs, impl.CondNot, impl.CondAnd, impl.CondOr
	for _, l := range [][]impl.CondNode{
		nil, {},
		// operators without their operands, or before them
		condNodes(not), condNodes(and), condNodes(or), condNodes(is, and), condNodes(is, or), condNodes(yes, not, and), condNodes(and, and),
		condNodes(not, is), condNodes(and, is, is), condNodes(is, or, is), condNodes(is, and, is, is), condNodes(is, is, and, or), condNodes(is, is, and, and, is),
		// several conditions side by side
		condNodes(is, is), condNodes(yes, is), condNodes(is, is, not), condNodes(is, not, is), condNodes(is, is, is, and), condNodes(is, is, and, yes), condNodes(yes, yes, yes),
	} {
		checkNoCond(t, l)
	}
}

func TestCodesInConditions(t *testing.T) {
	for _, s := range []string{"A", "TRUE", "FALSE", "Z9", "A-", "A--", "ABCDEFGH", "Z-9-9-9-", "TRUE1"} {
		for _, c := range []condTree{condIs(s, "X"), condIs("A", s), condIs(s, s)} {
			checkCond(t, c)
			checkCond(t, condNot(condAnd(condNot(c), condOr(c, condTrue()))))
			n := c.node
			if !impl.Holds(c.list(), []impl.Pick{{Option: "B", Value: "Y"}, {Option: n.Option, Value: n.Value}}) {
				t.Errorf("%q does not hold", c.text())
			}
		}
	}
}

func TestNumberOfNodes(t *testing.T) {
	for n := mostCond - 3; n <= mostCond; n++ {
		for _, c := range treesOfSize(n) {
			if len(c.list()) != n {
				t.Errorf("%q has %d nodes", c.text(), len(c.list()))
			}
			checkCond(t, c)
		}
	}
	for _, n := range []int{mostCond + 1, mostCond + 2, mostCond + 3, 2 * mostCond, 1000} {
		for _, c := range treesOfSize(n) {
			if len(c.list()) != n {
				t.Errorf("%q has %d nodes", c.text(), len(c.list()))
			}
			checkNoCond(t, c.list())
			checkNoText(t, c.text())
		}
	}
	for _, kind := range []int{impl.CondTrue, impl.CondIs, impl.CondNot, impl.CondAnd, impl.CondOr, 5} {
		checkNoCond(t, slices.Repeat(condNodes(kind), 100000))
	}
}

func TestParenthesesOfFormatCond(t *testing.T) {
	a, b, c := condIs("A", "X"), condIs("B", "Y"), condIs("C", "Z")
	for _, v := range []struct {
		c    condTree
		want string
	}{
		// the five places, the first one of three kinds
		{condAnd(condOr(a, b), c), "(A=X | B=Y) & C=Z"},
		{condAnd(a, condOr(b, c)), "A=X & (B=Y | C=Z)"},
		{condNot(condOr(a, b)), "!(A=X | B=Y)"},
		{condNot(condAnd(a, b)), "!(A=X & B=Y)"},
		{condAnd(a, condAnd(b, c)), "A=X & (B=Y & C=Z)"},
		{condOr(a, condOr(b, c)), "A=X | (B=Y | C=Z)"},
		// those without
		{condTrue(), "TRUE"},
		{a, "A=X"},
		{condNot(condTrue()), "!TRUE"},
		{condNot(a), "!A=X"},
		{condNot(condNot(a)), "!!A=X"},
		{condNot(condNot(condTrue())), "!!TRUE"},
		{condAnd(condAnd(a, b), c), "A=X & B=Y & C=Z"},
		{condOr(condOr(a, b), c), "A=X | B=Y | C=Z"},
		{condOr(condAnd(a, b), c), "A=X & B=Y | C=Z"},
		{condOr(a, condAnd(b, c)), "A=X | B=Y & C=Z"},
		{condAnd(condNot(a), condNot(b)), "!A=X & !B=Y"},
		{condOr(condNot(a), condNot(b)), "!A=X | !B=Y"},
		{condAnd(a, condTrue()), "A=X & TRUE"},
		{condOr(condTrue(), a), "TRUE | A=X"},
		// several together
		{condNot(condAnd(condNot(condOr(a, b)), condOr(condNot(c), a))), "!(!(A=X | B=Y) & (!C=Z | A=X))"},
		{condAnd(condOr(a, condOr(b, c)), condAnd(b, condNot(condAnd(a, c)))), "(A=X | (B=Y | C=Z)) & (B=Y & !(A=X & C=Z))"},
		{condOr(condOr(condAnd(a, b), condAnd(b, c)), condAnd(condAnd(a, b), c)), "A=X & B=Y | B=Y & C=Z | A=X & B=Y & C=Z"},
	} {
		if got := impl.FormatCond(v.c.list()); got != v.want {
			t.Errorf("FormatCond(%v) = %q, not %q", v.c.list(), got, v.want)
		}
		checkText(t, v.want, v.c)
	}
}

// textsOfTrees returns the conditions of all texts of these conditions with up to so many further parentheses.
func textsOfTrees(trees []condTree, further int) map[string]condTree {
	all := map[string]condTree{}
	for _, c := range trees {
		for n := range further + 1 {
			for _, s := range c.texts(n) {
				all[s] = c
			}
		}
	}
	return all
}

// checkTexts checks that of the texts those and only those of conditions are read.
func checkTexts(t *testing.T, texts []string, conds map[string]condTree) {
	t.Helper()
	for _, s := range texts {
		if c, ok := conds[s]; ok {
			checkText(t, s, c)
		} else {
			checkNoText(t, s)
		}
	}
}

func TestShortTexts(t *testing.T) {
	trees := slices.Concat(treesOf(7, []condTree{condTrue()})...)
	conds := textsOfTrees(trees, 3)
	checkTexts(t, textsOver([]string{"TRUE", "!", "(", ")", " & ", " | "}, 7), conds)
}

func TestShortTextsInSmallParts(t *testing.T) {
	var trees []condTree
	words := textsOver([]string{"A", "TRUE", "X1"}, 4)
	for _, option := range words {
		for _, value := range words {
			if impl.IsCode(option) && impl.IsCode(value) {
				trees = append(trees, condIs(option, value))
			}
		}
	}
	trees = append(trees, condTrue())
	for _, c := range slices.Clone(trees) {
		trees = append(trees, condNot(c), notTimes(2, c), notTimes(3, c), notTimes(4, c))
	}
	trees = append(trees, condAnd(condTrue(), condTrue()), condOr(condTrue(), condTrue()))
	checkTexts(t, textsOver([]string{"A", "TRUE", "X1", "=", " ", "&", "|", "!", "(", ")"}, 5), textsOfTrees(trees, 2))
}

func TestFurtherParentheses(t *testing.T) {
	for s, c := range textsOfTrees(slices.Concat(treesOf(5, []condTree{condIs("A", "X"), condTrue()})...), 2) {
		checkText(t, s, c)
	}
	a, b, c := condIs("A", "X"), condIs("B", "Y"), condIs("C", "Z")
	for s, c := range map[string]condTree{
		"(A=X)":                               a,
		"((TRUE))":                            condTrue(),
		"!(A=X)":                              condNot(a),
		"(!A=X)":                              condNot(a),
		"!(!(A=X))":                           condNot(condNot(a)),
		"!((A=X & B=Y))":                      condNot(condAnd(a, b)),
		"(A=X & B=Y)":                         condAnd(a, b),
		"(A=X) & (B=Y)":                       condAnd(a, b),
		"(A=X & B=Y) & C=Z":                   condAnd(condAnd(a, b), c),
		"(A=X & B=Y) | C=Z":                   condOr(condAnd(a, b), c),
		"A=X | (B=Y & C=Z)":                   condOr(a, condAnd(b, c)),
		"(A=X | B=Y) | C=Z":                   condOr(condOr(a, b), c),
		"((A=X | ((B=Y) | C=Z))) & (!(TRUE))": condAnd(condOr(a, condOr(b, c)), condNot(condTrue())),
	} {
		checkText(t, s, c)
	}
}

func TestLargeTextsWithFurtherParentheses(t *testing.T) {
	r := rand.New(rand.NewSource(66))
	read, refused := 0, 0
	for i := range 20000 {
		c := chanceTree(r, 1+r.Intn(mostCond))
		s, depth := c.looseText(r, 1+i%16)
		if depth <= mostCond {
			read++
			checkText(t, s, c)
		} else {
			refused++
			checkNoText(t, s)
		}
	}
	if read < 3000 || refused < 3000 {
		t.Errorf("%d texts are read, %d refused", read, refused)
	}
}

func TestParenthesesAroundOneOperand(t *testing.T) {
	a, b := condIs("A", "X"), condIs("B", "Y")
	for n := mostCond - 2; n <= mostCond+2; n++ {
		around := func(less int) string { return wrap(n-less, "A=X") }
		for s, c := range map[string]condTree{
			around(0):                                              a,
			wrap(n, "TRUE"):                                        condTrue(),
			wrap(n, "A=X & B=Y"):                                   condAnd(a, b),
			around(0) + " & B=Y":                                   condAnd(a, b),
			"B=Y | " + around(0):                                   condOr(b, a),
			"!" + around(1):                                        condNot(a),
			wrap(n-1, "!A=X"):                                      condNot(a),
			wrap(n-2, "!!A=X"):                                     notTimes(2, a),
			"!!!" + around(3):                                      notTimes(3, a),
			"!(!(!" + around(5) + "))":                             notTimes(3, a),
			"!(B=Y & " + around(2) + ")":                           condNot(condAnd(b, a)),
			"!(" + around(2) + " & B=Y)":                           condNot(condAnd(a, b)),
			wrap(n-5, "B=Y | !("+wrap(3, "A=X")+")"):               condOr(b, condNot(a)),
			wrap(n-3, "B=Y & !"+wrap(2, "B=Y & A=X")):              condAnd(b, condNot(condAnd(b, a))),
			wrap(n/2, "B=Y | "+wrap(n-n/2, "A=X")):                 condOr(b, a),
			around(0) + " & " + wrap(n, "B=Y"):                     condAnd(a, b),
			"!" + around(1) + " | !" + around(1):                   condOr(condNot(a), condNot(a)),
			"TRUE & " + wrap(n, "A=X | "+wrap(0, "B=Y")+" & TRUE"): condAnd(condTrue(), condOr(a, condAnd(b, condTrue()))),
		} {
			if n <= mostCond {
				checkText(t, s, c)
			} else {
				checkNoText(t, s)
			}
		}
	}
}

func TestNegationsAroundOneOperand(t *testing.T) {
	nots := func(n int, s string) string { return strings.Repeat("!", n) + s }
	checkText(t, nots(mostCond-1, "TRUE"), notTimes(mostCond-1, condTrue()))
	checkText(t, nots(mostCond-1, "(TRUE)"), notTimes(mostCond-1, condTrue()))
	checkText(t, "("+nots(mostCond-1, "TRUE")+")", notTimes(mostCond-1, condTrue()))
	for _, s := range []string{
		nots(mostCond, "TRUE"), nots(mostCond+1, "TRUE"), nots(mostCond-1, "((TRUE))"), "(" + nots(mostCond-1, "(TRUE)") + ")", "((" + nots(mostCond-1, "TRUE") + "))",
	} {
		checkNoText(t, s)
	}
	// Side by side, parentheses and negations do not add up.
	for n := range 4 {
		l := slices.Repeat([]condTree{notTimes(n, condTrue())}, mostCond/(n+2))
		parts := slices.Repeat([]string{wrap(mostCond-n, nots(n, "TRUE"))}, len(l))
		checkText(t, strings.Join(parts, " & "), fromLeft(condAnd, l))
		checkText(t, strings.Join(parts, " | "), fromLeft(condOr, l))
	}
}

func TestTextsThatAreNoConditions(t *testing.T) {
	for _, s := range []string{
		"", " ", "()", "(", ")", "!", "=", "&", "|", " & ", " | ", "!()", "(())", "!!", "( )",
		// missing or further spaces, and other white space
		"A=X&B=Y", "A=X|B=Y", "A=X &B=Y", "A=X& B=Y", "A=X |B=Y", "A=X| B=Y", "A=X  & B=Y", "A=X &  B=Y", "A=X |  B=Y", " A=X", "A=X ", "A =X", "A= X", "A = X",
		"! A=X", "!( A=X)", "!(A=X )", "( A=X)", "(A=X )", "(A=X) ", " (A=X)", "! (A=X)", "!! A=X", "A=X & ! B=Y", "A=X\t&\tB=Y", "A=X\n", "\nA=X", "A=X\u00a0&\u00a0B=Y", "A=X &\nB=Y",
		// a parenthesis too many or too few
		"(A=X", "A=X)", "((A=X)", "(A=X))", "(A=X & B=Y", "A=X & B=Y)", "A=X & (B=Y", "A=X) & B=Y", "(A=X)) & B=Y", "((A=X) & B=Y", "!(A=X", "!A=X)", ")A=X(", "(A=X)(B=Y)", "A=X(B=Y)", "(A=X)B=Y", "A(=X)", "A=(X)", "(A)=X",
		"[A=X]", "{A=X}",
		// operators without an operand
		"A=X &", "A=X & ", "& A=X", " & A=X", "A=X |", "A=X | ", "| A=X", " | A=X", "A=X & & B=Y", "A=X & | B=Y", "A=X |  | B=Y", "A=X !", "A=X !B=Y", "A=X! & B=Y", "(A=X & )", "(A=X | )", "( & A=X)", "!& A=X", "! & A=X", "A=X & !", "A=X | !", "A=X & !)",
		// something behind the end
		"A=XB=Y", "A=X B=Y", "A=X TRUE", "TRUE TRUE", "TRUETRUE", "TRUE!", "TRUE)", "TRUE()", "A=X=Y", "A==X", "A=X=", "=A=X", "A=X;", "A=X\x00", "A=X\xff", "A=X & B=Y C", "!A=X!",
		// words that are no codes
		"A", "A=", "=X", "a=X", "A=x", "1=X", "A=1", "-A=X", "A=-X", "A=X_", "A.B=X", "ABCDEFGHI=X", "A=ABCDEFGHI", "\u00c9=X", "A=\u00c9", "A=X\u0301", "\uff21=X",
		"FALSE", "true", "True", "TRU", "TRUE1", "TRUE=", "=TRUE", "TRUE=true", "!FALSE", "!A", "(A)", "A & B",
		// other operators and signs
		"A=X && B=Y", "A=X || B=Y", "A=X and B=Y", "NOT A=X", "A!=X", "A<X", "A=X, B=Y", "A=X + B=Y", "~A=X", "\"A=X\"",
		"A=X\r\n",
	} {
		checkNoText(t, s)
		checkNoText(t, "TRUE & "+s)
		checkNoText(t, "B=Y | "+s)
		checkNoText(t, s+" & TRUE")
	}
}

func TestLongTexts(t *testing.T) {
	const many = 200000
	for _, s := range []string{"(", ")", "!", "A", " ", "=", "&", "TRUE", "A=X", "A=X & ", "!(", "(A=X | ", "A=X) & ", "\xff", "\x00", "()"} {
		checkNoText(t, strings.Repeat(s, many))
		checkNoText(t, strings.Repeat(s, many)+"A=X")
		checkNoText(t, "A=X & "+strings.Repeat(s, many))
	}
	checkNoText(t, wrap(many, "A=X"))
	checkNoText(t, strings.Join(slices.Repeat([]string{"A=X"}, many), " | "))
}

func TestSizesOfOpposites(t *testing.T) {
	read, refused := 0, 0
	for n := 2; n <= 15; n++ {
		for negated := range n + 1 {
			for _, join := range []func(condTree, condTree) condTree{condAnd, condOr} {
				for _, c := range []condTree{fromLeft(join, severalConds(n, negated)), fromRight(join, severalConds(n, negated))} {
					if len(c.list()) > mostCond {
						continue
					}
					checkOpposite(t, c)
					switch 3*n - 1 - negated {
					case mostCond:
						read++
					case mostCond + 1:
						refused++
					}
				}
			}
		}
	}
	if read == 0 || refused == 0 {
		t.Errorf("%d opposites have MaxCond nodes, %d one more", read, refused)
	}
}

func TestOppositesOfMostNodes(t *testing.T) {
	b, c := condIs("B", "Y"), condIs("C", "Z")
	others := append(severalConds(8, 0), notTimes(8, condIs("A", "X")))
	fits := fromLeft(condAnd, append(others, condNot(condOr(b, c))))
	tooLong := fromLeft(condAnd, append(others, condAnd(condNot(b), c)))
	for _, v := range []struct {
		c    condTree
		want int
	}{{fits, mostCond}, {tooLong, 0}} {
		got, ok := impl.NegateCond(v.c.list())
		if len(v.c.list()) != mostCond || len(got) != v.want || ok != (v.want > 0) {
			t.Errorf("NegateCond(%q), with %d nodes, has %d: %v", v.c.text(), len(v.c.list()), len(got), ok)
		}
		checkOpposite(t, v.c)
	}
}

func TestOpposites(t *testing.T) {
	for s, want := range map[string]string{
		"TRUE":                            "!TRUE",
		"!TRUE":                           "TRUE",
		"!!TRUE":                          "!TRUE",
		"A=X":                             "!A=X",
		"!A=X":                            "A=X",
		"!!A=X":                           "!A=X",
		"!!!A=X":                          "A=X",
		"A=X & B=Y":                       "!A=X | !B=Y",
		"A=X | B=Y":                       "!A=X & !B=Y",
		"!(A=X & B=Y)":                    "A=X & B=Y",
		"!!(A=X & B=Y)":                   "!A=X | !B=Y",
		"!(!A=X | !!B=Y)":                 "!A=X | B=Y",
		"A=X & !(B=Y & C=Z)":              "!A=X | B=Y & C=Z",
		"A=X & !(B=Y | !C=Z)":             "!A=X | (B=Y | !C=Z)",
		"!(A=X & !(B=Y | C=Z))":           "A=X & (!B=Y & !C=Z)",
		"!(A=X & !(B=Y & !(C=Z | TRUE)))": "A=X & (!B=Y | (C=Z | TRUE))",
		"A=X & (B=Y | C=Z) | !TRUE":       "(!A=X | !B=Y & !C=Z) & TRUE",
		"C=Z & B=Y & A=X":                 "!C=Z | !B=Y | !A=X",
		"C=Z | (B=Y | A=X)":               "!C=Z & (!B=Y & !A=X)",
	} {
		l, ok := impl.ParseCond(s)
		if !ok {
			t.Errorf("ParseCond(%q) fails", s)
		}
		got, ok := impl.NegateCond(l)
		if impl.FormatCond(got) != want || !ok {
			t.Errorf("NegateCond(%q) = %q, %v, not %q", s, impl.FormatCond(got), ok, want)
		}
	}
}

func TestHolds(t *testing.T) {
	c := condAnd(condIs("A", "X"), condNot(condIs("B", "Y"))).list()
	for _, v := range []struct {
		choice []impl.Pick
		want   bool
	}{
		{nil, false},
		{[]impl.Pick{}, false},
		{[]impl.Pick{{Option: "A", Value: "X"}}, true},
		{[]impl.Pick{{Option: "A", Value: "X"}, {Option: "B", Value: "X"}}, true},
		{[]impl.Pick{{Option: "B", Value: "X"}, {Option: "A", Value: "X"}}, true},
		{[]impl.Pick{{Option: "A", Value: "X"}, {Option: "B", Value: "Y"}}, false},
		// other options
		{[]impl.Pick{{Option: "C", Value: "X"}, {Option: "D", Value: "Y"}}, false},
		{[]impl.Pick{{Option: "C", Value: "Y"}, {Option: "A", Value: "X"}, {Option: "D", Value: "Y"}}, true},
		// the same option twice
		{[]impl.Pick{{Option: "A", Value: "Y"}, {Option: "A", Value: "X"}}, true},
		{[]impl.Pick{{Option: "A", Value: "X"}, {Option: "A", Value: "Y"}}, true},
		{[]impl.Pick{{Option: "A", Value: "X"}, {Option: "A", Value: "X"}}, true},
		{[]impl.Pick{{Option: "A", Value: "X"}, {Option: "B", Value: "X"}, {Option: "B", Value: "Y"}}, false},
		// picks that no condition asks for
		{[]impl.Pick{{}, {Option: "\xff", Value: "x"}, {Option: "A", Value: "X"}}, true},
		{[]impl.Pick{{Option: "X", Value: "A"}}, false},
		{[]impl.Pick{{Option: "A=X", Value: ""}, {Option: "A", Value: ""}, {Option: "", Value: "X"}}, false},
	} {
		if got := impl.Holds(c, v.choice); got != v.want {
			t.Errorf("Holds(%v) is %v", v.choice, got)
		}
	}
	long := append(slices.Repeat([]impl.Pick{{Option: "B", Value: "X"}}, 100000), impl.Pick{Option: "A", Value: "X"})
	if !impl.Holds(c, long) || impl.Holds(c, append(long, impl.Pick{Option: "B", Value: "Y"})) {
		t.Error("Holds of a long choice")
	}
}

func TestOptionsIn(t *testing.T) {
	for s, want := range map[string][]string{
		"TRUE":                            nil,
		"!TRUE & TRUE":                    nil,
		"A=X":                             {"A"},
		"!B=Y":                            {"B"},
		"B=Y & A=X":                       {"B", "A"},
		"A=X | B=Y":                       {"A", "B"},
		"B=X | B=Y":                       {"B"},
		"C=X & (B=Y | A=Z)":               {"C", "B", "A"},
		"B=X & A=X | B=Y & C=Z | A=Y":     {"B", "A", "C"},
		"TRUE=A & A=TRUE":                 {"TRUE", "A"},
		"X=A & A=X":                       {"X", "A"},
		"!(Z=Z & !(Y=Z | !(X=Z & Z=Y)))":  {"Z", "Y", "X"},
		"A1=X & A-=X & A=X & AA=X & A1=Y": {"A1", "A-", "A", "AA"},
		"TRUE | B=B & TRUE | !A=A | B=B":  {"B", "A"},
	} {
		l, ok := impl.ParseCond(s)
		if got := impl.OptionsIn(l); !ok || !slices.Equal(got, want) {
			t.Errorf("OptionsIn(%q) = %q, not %q", s, got, want)
		}
	}
	l := severalConds(15, 0)
	slices.Reverse(l)
	if got := impl.OptionsIn(fromRight(condOr, l).list()); len(got) != 15 || got[0] != "O14" || got[14] != "O0" {
		t.Errorf("OptionsIn = %q", got)
	}
}

// spareNodes returns the list with nodes in its unused capacity, and all of it.
func spareNodes(l []impl.CondNode) ([]impl.CondNode, []impl.CondNode) {
	all := slices.Concat(l, condNodes(impl.CondIs, impl.CondNot, impl.CondOr))
	return all[:len(l)], all
}

func TestConditionsStayAsTheyAre(t *testing.T) {
	trees := append(treesOfSize(mostCond), condTrue(), condIs("A", "X"), condAnd(condIs("B", "Y"), condNot(condIs("A", "X"))))
	for _, c := range trees {
		l, all := spareNodes(c.list())
		before := slices.Clone(all)
		picks := []impl.Pick{{Option: "B", Value: "Y"}, {Option: "A", Value: "X"}, {Option: "C"}}
		impl.IsCond(l)
		impl.Holds(l, picks[:2])
		impl.FormatCond(l)
		impl.OptionsIn(l)
		opposite, _ := impl.NegateCond(l)
		for i := range opposite {
			opposite[i] = impl.CondNode{Kind: 7}
		}
		if !slices.Equal(all, before) {
			t.Errorf("%v became %v", before, all)
		}
		if want := []impl.Pick{{Option: "B", Value: "Y"}, {Option: "A", Value: "X"}, {Option: "C"}}; !slices.Equal(picks, want) {
			t.Errorf("the picks became %v", picks)
		}
	}
}

func TestResultsOfConditionsAreNew(t *testing.T) {
	c := condAnd(condIs("B", "Y"), condNot(condIs("A", "X")))
	for range 2 {
		read, _ := impl.ParseCond(c.text())
		opposite, _ := impl.NegateCond(c.list())
		options := impl.OptionsIn(c.list())
		if !slices.Equal(read, c.list()) || impl.FormatCond(opposite) != "!B=Y | A=X" || !slices.Equal(options, []string{"B", "A"}) {
			t.Errorf("%v, %v and %q", read, opposite, options)
		}
		read[0], opposite[0], options[0] = impl.CondNode{Kind: 7}, impl.CondNode{Kind: 7}, "changed"
	}
}
