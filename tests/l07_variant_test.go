package tests

import (
	"fmt"
	"math/rand"
	"runtime"
	"slices"
	"strings"
	"sync"
	"testing"
	"time"

	"loop.example/g03407/impl"
)

// The largest numbers that the document allows.
const (
	mostOptions = 4
	mostValues  = 4
	mostFixed   = 6
)

func TestConstantsOfVariants(t *testing.T) {
	if impl.MaxOptions != mostOptions || impl.MaxValues != mostValues || impl.MaxRules != mostFixed {
		t.Errorf("MaxOptions = %d, MaxValues = %d, MaxRules = %d", impl.MaxOptions, impl.MaxValues, impl.MaxRules)
	}
}

// ruledModel is a model with its rules as trees, which tell without the program what they ask for.
type ruledModel struct {
	options []impl.Option
	rules   []condTree
}

// optionOf returns an option with these values.
func optionOf(name string, values ...string) impl.Option {
	return impl.Option{Name: name, Values: values}
}

// modelOf returns a model with these rules, written as texts.
func modelOf(options []impl.Option, rules ...string) impl.Model {
	m := impl.Model{Options: options}
	for _, s := range rules {
		l, ok := impl.ParseCond(s)
		if !ok {
			panic("no condition: " + s)
		}
		m.Rules = append(m.Rules, l)
	}
	return m
}

// picksOf returns the picks of a text such as A=X B=Y.
func picksOf(s string) []impl.Pick {
	var picks []impl.Pick
	for _, word := range strings.Fields(s) {
		option, value, _ := strings.Cut(word, "=")
		picks = append(picks, impl.Pick{Option: option, Value: value})
	}
	return picks
}

// textOfPicks is the way back.
func textOfPicks(picks []impl.Pick) string {
	var words []string
	for _, p := range picks {
		words = append(words, p.Option+"="+p.Value)
	}
	return strings.Join(words, " ")
}

// textsOfChoices returns the texts of all choices.
func textsOfChoices(choices [][]impl.Pick) []string {
	var l []string
	for _, c := range choices {
		l = append(l, textOfPicks(c))
	}
	return l
}

func (m ruledModel) model() impl.Model {
	var rules [][]impl.CondNode
	for _, c := range m.rules {
		rules = append(rules, c.list())
	}
	return impl.Model{Options: m.options, Rules: rules}
}

// String tells the model in a failing test.
func (m ruledModel) String() string {
	var rules []string
	for _, c := range m.rules {
		rules = append(rules, c.text())
	}
	return fmt.Sprintf("%v %q", m.options, rules)
}

// choices counts through all picks of one value for each option, the last option fastest, and keeps those that fulfil the rules.
func (m ruledModel) choices() [][]impl.Pick {
	size := 1
	for _, o := range m.options {
		size *= len(o.Values)
	}
	var all [][]impl.Pick
	for number := range size {
		choice := make([]impl.Pick, len(m.options))
		for i := len(m.options) - 1; i >= 0; i-- {
			o := m.options[i]
			choice[i] = impl.Pick{Option: o.Name, Value: o.Values[number%len(o.Values)]}
			number /= len(o.Values)
		}
		if m.allows(choice) {
			all = append(all, choice)
		}
	}
	return all
}

func (m ruledModel) allows(choice []impl.Pick) bool {
	for _, c := range m.rules {
		if !c.isTrue(choice) {
			return false
		}
	}
	return true
}

// hasAll reports whether a choice has all picks for which kept is true.
func hasAll(choice []impl.Pick, picks []impl.Pick, kept []bool) bool {
	for i, p := range picks {
		found := false
		for _, q := range choice {
			found = found || p.Option == q.Option && p.Value == q.Value
		}
		if kept[i] && !found {
			return false
		}
	}
	return true
}

// firstWith returns the index of the first choice that has all picks for which kept is true, or -1.
func firstWith(choices [][]impl.Pick, picks []impl.Pick, kept []bool) int {
	for i, c := range choices {
		if hasAll(c, picks, kept) {
			return i
		}
	}
	return -1
}

// partials returns all picks of at most one value for each option, in the order of the options.
func (m ruledModel) partials() [][]impl.Pick {
	all := [][]impl.Pick{nil}
	for _, o := range m.options {
		for _, picks := range slices.Clone(all) {
			for _, v := range o.Values {
				all = append(all, append(slices.Clone(picks), impl.Pick{Option: o.Name, Value: v}))
			}
		}
	}
	return all
}

// ordersOf returns the elements of a list in all orders, the given one first.
func ordersOf[T any](l []T) [][]T {
	if len(l) == 0 {
		return [][]T{nil}
	}
	var all [][]T
	for i, x := range l {
		for _, rest := range ordersOf(slices.Concat(l[:i], l[i+1:])) {
			all = append(all, append([]T{x}, rest...))
		}
	}
	return all
}

// ruleLeaf returns a condition of a single node by chance, seldom of an option or a value that no model has.
func ruleLeaf(r *rand.Rand, options []impl.Option) condTree {
	if len(options) == 0 || r.Intn(12) == 0 {
		return []condTree{condTrue(), condIs("NONE", "X"), condIs("A", "NONE")}[r.Intn(3)]
	}
	o := options[r.Intn(len(options))]
	return condIs(o.Name, o.Values[r.Intn(len(o.Values))])
}

// ruleOfChance returns a condition with up to n nodes by chance.
func ruleOfChance(r *rand.Rand, options []impl.Option, n int) condTree {
	switch {
	case n < 2 || r.Intn(5) == 0:
		return ruleLeaf(r, options)
	case n < 3 || r.Intn(3) == 0:
		return condNot(ruleOfChance(r, options, n-1))
	}
	first := 1 + r.Intn(n-2)
	join := condOr
	if r.Intn(3) == 0 {
		join = condAnd
	}
	return join(ruleOfChance(r, options, first), ruleOfChance(r, options, n-1-first))
}

// modelOfChance returns a model by chance, with so many options of up to so many values each.
func modelOfChance(r *rand.Rand, options int, values int) ruledModel {
	names := []string{"D", "B", "TRUE", "A"}
	words := []string{"X", "D", "TRUE", "B-1"}
	r.Shuffle(len(names), func(i, j int) { names[i], names[j] = names[j], names[i] })
	var m ruledModel
	for _, name := range names[:options] {
		r.Shuffle(len(words), func(i, j int) { words[i], words[j] = words[j], words[i] })
		m.options = append(m.options, optionOf(name, slices.Clone(words[:1+r.Intn(values)])...))
	}
	for range r.Intn(mostFixed + 1) {
		m.rules = append(m.rules, ruleOfChance(r, m.options, 1+r.Intn(12)))
	}
	return m
}

// largestOptions returns MaxOptions options of MaxValues values each.
func largestOptions() []impl.Option {
	var l []impl.Option
	for _, name := range []string{"SIZE", "COLOR", "DOOR", "ABCDEFGH"} {
		l = append(l, optionOf(name, "Z", "A1", "M-", "ABCDEFGH"))
	}
	return l
}

// notBoth is the rule that two values exclude each other.
func notBoth(o1 string, v1 string, o2 string, v2 string) condTree {
	return condNot(condAnd(condIs(o1, v1), condIs(o2, v2)))
}

// largestRules returns MaxRules rules.
func largestRules() []condTree {
	return []condTree{
		notBoth("SIZE", "Z", "COLOR", "Z"),
		condOr(condNot(condIs("COLOR", "A1")), condIs("DOOR", "M-")),
		condOr(condIs("SIZE", "M-"), condOr(condIs("DOOR", "A1"), condIs("DOOR", "M-"))),
		notBoth("DOOR", "M-", "ABCDEFGH", "ABCDEFGH"),
		condNot(condIs("COLOR", "ABCDEFGH")),
		condOr(condIs("ABCDEFGH", "ABCDEFGH"), condOr(condIs("ABCDEFGH", "Z"), condIs("SIZE", "A1"))),
	}
}

// someModels returns models of all sizes, with rules of all kinds.
func someModels() []ruledModel {
	two := []impl.Option{optionOf("B", "Y", "X"), optionOf("A", "X", "Z", "Y")}
	var all []ruledModel
	for _, rules := range [][]condTree{
		nil,
		{condTrue()},
		{condNot(condTrue())},
		{condTrue(), condNot(condTrue())},
		slices.Repeat([]condTree{condTrue()}, mostFixed),
		{condIs("A", "X")},
		{condNot(condIs("A", "X"))},
		{condIs("NONE", "X")},
		{condNot(condIs("NONE", "X"))},
		{condIs("A", "NONE")},
		{condNot(condIs("A", "NONE"))},
		{condIs("B", "Z")},
		{condIs("A", "X"), condNot(condIs("A", "X"))},
		{condIs("A", "X"), condIs("A", "Y")},
		{notBoth("A", "X", "B", "X"), notBoth("A", "X", "B", "Y")},
		{condOr(condAnd(condIs("A", "X"), condIs("B", "X")), condAnd(condIs("A", "Y"), condIs("B", "Y")))},
	} {
		for _, options := range [][]impl.Option{nil, {optionOf("A", "X")}, {optionOf("A", "Y", "X")}, two} {
			all = append(all, ruledModel{options, rules})
		}
	}
	r := rand.New(rand.NewSource(7))
	for i := range 300 {
		all = append(all, modelOfChance(r, i%4, mostValues))
	}
	for range 40 {
		all = append(all, modelOfChance(r, mostOptions, 2), modelOfChance(r, mostOptions, 3))
	}
	return all
}

// largestModels returns models with MaxOptions options of MaxValues values each.
func largestModels() []ruledModel {
	rules := largestRules()
	three := []condTree{rules[0], rules[1], rules[3]}
	long := fromLeft(condAnd, slices.Repeat([]condTree{condIs("NONE", "X")}, 15))
	if len(condNot(long).list()) != mostCond {
		panic("not the longest condition")
	}
	return []ruledModel{
		{largestOptions(), nil},
		{largestOptions(), rules},
		{largestOptions(), three},
		{largestOptions(), slices.Repeat([]condTree{condNot(long)}, mostFixed)},
		{largestOptions(), append(slices.Clone(rules[:5]), condNot(condTrue()))},
	}
}

// checkPicks checks what is said of picks that are of different options.
func checkPicks(t *testing.T, m ruledModel, choices [][]impl.Pick, picks []impl.Pick) {
	t.Helper()
	model := m.model()
	if !impl.IsPartial(model, picks) {
		t.Errorf("%v: IsPartial(%v) is false", m, picks)
	}
	kept := slices.Repeat([]bool{true}, len(picks))
	first := firstWith(choices, picks, kept)
	got, ok := impl.CompleteChoice(model, picks)
	if first < 0 {
		if ok || len(got) != 0 {
			t.Errorf("%v: CompleteChoice(%v) = %v, %v", m, picks, got, ok)
		}
	} else if !ok || !slices.Equal(got, choices[first]) {
		t.Errorf("%v: CompleteChoice(%v) = %v, %v, not %v", m, picks, got, ok, choices[first])
	}
	want := slices.ContainsFunc(choices, func(c []impl.Pick) bool { return slices.Equal(c, picks) })
	if impl.IsChoice(model, picks) != want {
		t.Errorf("%v: IsChoice(%v) is not %v", m, picks, want)
	}
	checkConflict(t, m, choices, picks)
	checkOpenValues(t, m, choices, picks)
}

// checkConflict checks the conflict of picks by the document's words, and that it has no part too many.
func checkConflict(t *testing.T, m ruledModel, choices [][]impl.Pick, picks []impl.Pick) {
	t.Helper()
	got, ok := impl.ConflictOf(m.model(), picks)
	kept := slices.Repeat([]bool{true}, len(picks))
	if firstWith(choices, picks, kept) >= 0 {
		if ok || len(got) != 0 {
			t.Errorf("%v: ConflictOf(%v) = %v, %v", m, picks, got, ok)
		}
		return
	}
	var want []impl.Pick
	for i, p := range picks {
		kept[i] = false
		if firstWith(choices, picks, kept) >= 0 {
			kept[i] = true
			want = append(want, p)
		}
	}
	if !ok || !slices.Equal(got, want) {
		t.Errorf("%v: ConflictOf(%v) = %v, %v, not %v", m, picks, got, ok, want)
	}
	all := slices.Repeat([]bool{true}, len(got))
	if firstWith(choices, got, all) >= 0 {
		t.Errorf("%v: ConflictOf(%v) = %v is no conflict", m, picks, got)
	}
	for i := range got {
		all[i] = false
		if firstWith(choices, got, all) < 0 {
			t.Errorf("%v: ConflictOf(%v) = %v has a part too many", m, picks, got)
		}
		all[i] = true
	}
}

// checkOpenValues checks the open values of all options of the model and of some that it does not have.
func checkOpenValues(t *testing.T, m ruledModel, choices [][]impl.Pick, picks []impl.Pick) {
	t.Helper()
	kept := slices.Repeat([]bool{true}, len(picks)+1)
	for _, o := range m.options {
		var want []string
		for _, v := range o.Values {
			more := append(slices.Clone(picks), impl.Pick{Option: o.Name, Value: v})
			if firstWith(choices, more, kept) >= 0 {
				want = append(want, v)
			}
		}
		if got := impl.OpenValues(m.model(), picks, o.Name); !slices.Equal(got, want) {
			t.Errorf("%v: OpenValues(%v, %s) = %q, not %q", m, picks, o.Name, got, want)
		}
	}
	for _, option := range []string{"", "NONE", "a", "X", "A "} {
		if got := impl.OpenValues(m.model(), picks, option); len(got) != 0 {
			t.Errorf("%v: OpenValues(%v, %q) = %q", m, picks, option, got)
		}
	}
}

// checkChoices checks the choices of a model and returns them.
func checkChoices(t *testing.T, m ruledModel) [][]impl.Pick {
	t.Helper()
	if !impl.IsModel(m.model()) {
		t.Errorf("%v is no model", m)
	}
	want := m.choices()
	got := impl.ChoicesOf(m.model())
	if !slices.EqualFunc(got, want, slices.Equal[[]impl.Pick]) {
		t.Errorf("%v: ChoicesOf = %v, not %v", m, got, want)
	}
	return want
}

func TestModels(t *testing.T) {
	with, without := 0, 0
	for _, m := range someModels() {
		choices := checkChoices(t, m)
		if len(choices) > 0 {
			with++
		} else {
			without++
		}
		for _, picks := range m.partials() {
			checkPicks(t, m, choices, picks)
		}
	}
	if with < 50 || without < 50 {
		t.Errorf("%d models have choices, %d have none", with, without)
	}
}

// excludingModel returns a model by chance in which some values of two or three options exclude each other.
func excludingModel(r *rand.Rand, options int) ruledModel {
	m := ruledModel{options: largestOptions()[:options]}
	for i := range m.options {
		m.options[i].Values = m.options[i].Values[:2+r.Intn(2)]
	}
	for range 2 + r.Intn(mostFixed-1) {
		var together []condTree
		for _, i := range r.Perm(options)[:2+r.Intn(2)] {
			o := m.options[i]
			together = append(together, condIs(o.Name, o.Values[r.Intn(len(o.Values))]))
		}
		m.rules = append(m.rules, condNot(fromLeft(condAnd, together)))
	}
	return m
}

func TestPicksInAllOrders(t *testing.T) {
	r := rand.New(rand.NewSource(77))
	// By how many picks are left out.
	conflicts := make([]int, mostOptions)
	for i := range 60 {
		m := excludingModel(r, 3+i%2)
		choices := checkChoices(t, m)
		partials := m.partials()
		for range 12 {
			picks := partials[r.Intn(len(partials))]
			for _, other := range ordersOf(picks) {
				checkPicks(t, m, choices, other)
			}
			if got, ok := impl.ConflictOf(m.model(), picks); ok {
				conflicts[len(picks)-len(got)]++
			}
		}
	}
	if conflicts[0] < 10 || conflicts[1] < 10 || conflicts[2] < 10 {
		t.Errorf("%v conflicts", conflicts)
	}
}

func TestLargestModels(t *testing.T) {
	for _, m := range largestModels() {
		choices := checkChoices(t, m)
		for i, picks := range m.partials() {
			if i%7 == 0 || len(picks) == mostOptions && i%2 == 0 {
				checkPicks(t, m, choices, picks)
			}
		}
	}
	for i, want := range []int{256, -1, -1, 256, 0} {
		got := len(impl.ChoicesOf(largestModels()[i].model()))
		if want >= 0 && got != want || want < 0 && (got == 0 || got == 256) {
			t.Errorf("the largest model %d has %d choices", i, got)
		}
	}
}

func TestOrderOfChoices(t *testing.T) {
	options := []impl.Option{optionOf("B", "Z", "A"), optionOf("A", "X"), optionOf("C", "Q", "K", "P")}
	for _, v := range []struct {
		rules []string
		want  []string
	}{
		{nil, []string{"B=Z A=X C=Q", "B=Z A=X C=K", "B=Z A=X C=P", "B=A A=X C=Q", "B=A A=X C=K", "B=A A=X C=P"}},
		{[]string{"!C=K"}, []string{"B=Z A=X C=Q", "B=Z A=X C=P", "B=A A=X C=Q", "B=A A=X C=P"}},
		{[]string{"C=P | B=A", "!(B=A & C=P)"}, []string{"B=Z A=X C=P", "B=A A=X C=Q", "B=A A=X C=K"}},
		{[]string{"C=K", "A=X", "B=A"}, []string{"B=A A=X C=K"}},
		{[]string{"C=K", "A=Y"}, nil},
	} {
		got := textsOfChoices(impl.ChoicesOf(modelOf(options, v.rules...)))
		if !slices.Equal(got, v.want) {
			t.Errorf("%q: ChoicesOf = %q, not %q", v.rules, got, v.want)
		}
	}
}

func TestModelWithoutOptions(t *testing.T) {
	for _, v := range []struct {
		rules []string
		want  bool
	}{
		{nil, true}, {[]string{"TRUE"}, true}, {[]string{"!TRUE"}, false}, {[]string{"A=X"}, false}, {[]string{"!A=X"}, true}, {[]string{"!A=X", "TRUE", "A=X"}, false},
	} {
		m := modelOf(nil, v.rules...)
		if !impl.IsModel(m) || !impl.IsPartial(m, nil) || impl.IsPartial(m, picksOf("A=X")) {
			t.Errorf("%q: IsModel or IsPartial", v.rules)
		}
		choices := impl.ChoicesOf(m)
		if v.want && (len(choices) != 1 || len(choices[0]) != 0) || !v.want && len(choices) != 0 {
			t.Errorf("%q: ChoicesOf = %v", v.rules, choices)
		}
		if impl.IsChoice(m, nil) != v.want || impl.IsChoice(m, []impl.Pick{}) != v.want || impl.IsChoice(m, picksOf("A=X")) {
			t.Errorf("%q: IsChoice", v.rules)
		}
		if got, ok := impl.CompleteChoice(m, nil); ok != v.want || len(got) != 0 {
			t.Errorf("%q: CompleteChoice = %v, %v", v.rules, got, ok)
		}
		if got, ok := impl.ConflictOf(m, nil); ok == v.want || len(got) != 0 {
			t.Errorf("%q: ConflictOf = %v, %v", v.rules, got, ok)
		}
		if got := impl.OpenValues(m, nil, "A"); len(got) != 0 {
			t.Errorf("%q: OpenValues = %q", v.rules, got)
		}
	}
}

// aAndB returns two options of two values each.
func aAndB() []impl.Option { return []impl.Option{optionOf("A", "X", "Y"), optionOf("B", "X", "Y")} }

func TestRulesThatNoChoiceFulfils(t *testing.T) {
	for _, rules := range [][]string{
		{"!TRUE"}, {"TRUE", "!TRUE"}, {"A=X & A=Y"}, {"A=X", "B=X", "A=Y"}, {"A=Z"}, {"C=X"}, {"!A=X", "!A=Y"}, {"TRUE", "TRUE", "TRUE", "TRUE", "TRUE", "B=A"},
	} {
		m := modelOf(aAndB(), rules...)
		if !impl.IsModel(m) || len(impl.ChoicesOf(m)) != 0 {
			t.Errorf("%q: IsModel is %v, ChoicesOf = %v", rules, impl.IsModel(m), impl.ChoicesOf(m))
		}
		for _, s := range []string{"", "A=X", "B=Y", "A=Y B=X", "B=X A=Y"} {
			picks := picksOf(s)
			if !impl.IsPartial(m, picks) || impl.IsChoice(m, picks) {
				t.Errorf("%q: IsPartial(%s) is %v, IsChoice is %v", rules, s, impl.IsPartial(m, picks), impl.IsChoice(m, picks))
			}
			if got, ok := impl.CompleteChoice(m, picks); ok || len(got) != 0 {
				t.Errorf("%q: CompleteChoice(%s) = %v, %v", rules, s, got, ok)
			}
			if got, ok := impl.ConflictOf(m, picks); !ok || len(got) != 0 {
				t.Errorf("%q: ConflictOf(%s) = %v, %v", rules, s, got, ok)
			}
			if got := append(impl.OpenValues(m, picks, "A"), impl.OpenValues(m, picks, "B")...); len(got) != 0 {
				t.Errorf("%q: OpenValues(%s) = %q", rules, s, got)
			}
		}
	}
}

func TestRulesOfWhatTheModelDoesNotHave(t *testing.T) {
	for _, v := range []struct {
		rule string
		want []string
	}{
		{"C=X", nil},
		{"!C=X", []string{"A=X B=X", "A=X B=Y", "A=Y B=X", "A=Y B=Y"}},
		{"A=Z", nil},
		{"!A=Z", []string{"A=X B=X", "A=X B=Y", "A=Y B=X", "A=Y B=Y"}},
		{"A=Y | C=X", []string{"A=Y B=X", "A=Y B=Y"}},
		{"A=Y & !B=Z", []string{"A=Y B=X", "A=Y B=Y"}},
		{"X=A | B=Y & !Y=B", []string{"A=X B=Y", "A=Y B=Y"}},
	} {
		got := textsOfChoices(impl.ChoicesOf(modelOf(aAndB(), v.rule)))
		if !slices.Equal(got, v.want) {
			t.Errorf("%q: ChoicesOf = %q, not %q", v.rule, got, v.want)
		}
	}
}

// checkNoModel checks that all functions take a model as none.
func checkNoModel(t *testing.T, m impl.Model) {
	t.Helper()
	if impl.IsModel(m) {
		t.Errorf("IsModel(%.300q)", fmt.Sprint(m))
	}
	if got := impl.ChoicesOf(m); len(got) != 0 {
		t.Errorf("ChoicesOf(%.300q) = %v", fmt.Sprint(m), got)
	}
	for _, s := range []string{"", "A=X", "B=Y", "A=X B=Y", "=", "A=", "a=X", "NONE=X", "A=X A=X"} {
		checkNoPicks(t, m, picksOf(s))
	}
}

// checkNoPicks checks that picks are not of different options of a model.
func checkNoPicks(t *testing.T, m impl.Model, picks []impl.Pick) {
	t.Helper()
	where := func() string { return fmt.Sprintf("%.300s, %.300s", fmt.Sprint(m), fmt.Sprintf("%q", picks)) }
	if impl.IsPartial(m, picks) || impl.IsChoice(m, picks) {
		t.Errorf("%s: IsPartial is %v, IsChoice is %v", where(), impl.IsPartial(m, picks), impl.IsChoice(m, picks))
	}
	if got, ok := impl.CompleteChoice(m, picks); ok || len(got) != 0 {
		t.Errorf("%s: CompleteChoice = %v, %v", where(), got, ok)
	}
	if got, ok := impl.ConflictOf(m, picks); ok || len(got) != 0 {
		t.Errorf("%s: ConflictOf = %v, %v", where(), got, ok)
	}
	for _, option := range []string{"A", "B", "", "NONE"} {
		if got := impl.OpenValues(m, picks, option); len(got) != 0 {
			t.Errorf("%s: OpenValues(%q) = %q", where(), option, got)
		}
	}
}

// optionsWith returns two good options and another one in all places.
func optionsWith(other impl.Option) [][]impl.Option {
	l := aAndB()
	return [][]impl.Option{{other}, {other, l[0], l[1]}, {l[0], other, l[1]}, {l[0], l[1], other}}
}

// manyOptions returns n options with different names.
func manyOptions(n int) []impl.Option {
	var l []impl.Option
	for i := range n {
		l = append(l, optionOf(fmt.Sprintf("A%d", i), "X", "Y"))
	}
	return l
}

func TestOptionsOfNoModel(t *testing.T) {
	many := make([]string, 100000)
	for i := range many {
		many[i] = fmt.Sprintf("V%d", i)
	}
	unfit := []impl.Option{
		// no values, too many, one twice
		optionOf("C"), {Name: "C", Values: []string{}}, optionOf("C", many[:mostValues+1]...), optionOf("C", many...),
		optionOf("C", "X", "X"), optionOf("C", "X", "Y", "X"), optionOf("C", "Y", "X", "Z", "X"), optionOf("C", "X", "Y", "Z", "Z"), optionOf("C", "X", "Y", "Y", "Z"), optionOf("C", "X", "X", "X", "X", "X"),
		// two options of one name
		optionOf("A", "X", "Y"), optionOf("A", "P"), optionOf("B", "X", "Y"),
		{},
	}
	for _, s := range noCodes() {
		unfit = append(unfit, optionOf(s, "X"), optionOf("C", s), optionOf("C", s, "X"), optionOf("C", "X", "Y", "Z", s), optionOf("C", "X", s, "Z"))
	}
	for _, o := range unfit {
		for i, options := range optionsWith(o) {
			if i == 0 && impl.IsCode(o.Name) && (o.Name == "A" || o.Name == "B") {
				// By itself, such an option is a model.
				continue
			}
			checkNoModel(t, impl.Model{Options: options})
			checkNoModel(t, modelOf(options, "TRUE"))
			checkNoModel(t, modelOf(options, "!TRUE"))
		}
	}
	for _, n := range []int{mostOptions + 1, mostOptions + 2, 100, 100000} {
		checkNoModel(t, impl.Model{Options: manyOptions(n)})
		checkNoModel(t, impl.Model{Options: slices.Repeat([]impl.Option{optionOf("A", "X")}, n)})
	}
}

func TestRulesOfNoModel(t *testing.T) {
	good := condIs("A", "X").list()
	unfit := [][]impl.CondNode{
		nil, {}, condNodes(impl.CondNot), condNodes(impl.CondIs, impl.CondIs), condNodes(impl.CondIs, impl.CondAnd), notTimes(mostCond, condTrue()).list(), slices.Repeat(good, 100000),
	}
	for _, n := range unfitNodes() {
		unfit = append(unfit, []impl.CondNode{n})
	}
	for _, rule := range unfit {
		for at := range mostFixed {
			rules := slices.Repeat([][]impl.CondNode{good}, mostFixed)
			rules[at] = rule
			checkNoModel(t, impl.Model{Options: aAndB(), Rules: rules})
		}
		checkNoModel(t, impl.Model{Options: aAndB(), Rules: [][]impl.CondNode{rule}})
		checkNoModel(t, impl.Model{Rules: [][]impl.CondNode{rule}})
	}
	for _, n := range []int{mostFixed + 1, mostFixed + 2, 100, 100000} {
		checkNoModel(t, impl.Model{Options: aAndB(), Rules: slices.Repeat([][]impl.CondNode{condTrue().list()}, n)})
		checkNoModel(t, impl.Model{Rules: slices.Repeat([][]impl.CondNode{condTrue().list()}, n)})
	}
}

func TestModelsAtTheirLimits(t *testing.T) {
	same := []impl.Option{optionOf("X", "X", "Y"), optionOf("Y", "Y", "X"), optionOf("A", "X", "A", "A1", "A-"), optionOf("ABCDEFGH", "ABCDEFGH")}
	for _, m := range []impl.Model{
		{}, {Options: []impl.Option{}, Rules: [][]impl.CondNode{}},
		{Options: manyOptions(mostOptions)}, {Options: largestOptions()}, {Options: same},
		{Rules: slices.Repeat([][]impl.CondNode{notTimes(mostCond-1, condTrue()).list()}, mostFixed)},
		{Options: same, Rules: slices.Repeat([][]impl.CondNode{notTimes(mostCond-2, condTrue()).list()}, mostFixed)},
	} {
		if !impl.IsModel(m) || !impl.IsPartial(m, nil) {
			t.Errorf("IsModel(%v) is %v, IsPartial of no picks %v", m, impl.IsModel(m), impl.IsPartial(m, nil))
		}
	}
	if got := len(impl.ChoicesOf(impl.Model{Options: same})); got != 16 {
		t.Errorf("%d choices", got)
	}
	if got := len(impl.ChoicesOf(impl.Model{Options: manyOptions(mostOptions)})); got != 16 {
		t.Errorf("%d choices", got)
	}
}

func TestPicksThatAreNotPartial(t *testing.T) {
	options := []impl.Option{optionOf("A", "X", "Y"), optionOf("B", "Z", "Y")}
	for _, rules := range [][]string{nil, {"A=X"}, {"!TRUE"}} {
		m := modelOf(options, rules...)
		for _, s := range []string{
			// an option twice
			"A=X A=X", "A=X A=Y", "A=X B=Z A=X", "A=X B=Z A=Y", "A=X B=Z B=Y", "B=Z A=X B=Z", "A=X A=X A=X",
			// an unknown option
			"C=X", "C=X A=X", "A=X C=X", "A=X B=Z C=X", "X=A", "TRUE=TRUE", "NONE=X",
			// a value of another option, or of none
			"A=Z", "B=X", "A=X B=X", "B=Z A=Z", "A=C", "B=A", "A=B",
			// words that are no codes
			"=", "A=", "=X", "a=X", "A=x", "A=X B=", "AA=X", "A=XY", "A=X=Y",
		} {
			checkNoPicks(t, m, picksOf(s))
		}
		checkNoPicks(t, m, []impl.Pick{{}})
		checkNoPicks(t, m, []impl.Pick{{Option: "A", Value: "X"}, {}})
		checkNoPicks(t, m, []impl.Pick{{Option: "A", Value: "X "}})
		checkNoPicks(t, m, []impl.Pick{{Option: "A\x00", Value: "X"}})
		checkNoPicks(t, m, slices.Repeat(picksOf("A=X"), 100000))
		checkNoPicks(t, m, slices.Repeat(picksOf("A=X B=Z"), 100000))
	}
}

func TestIsChoice(t *testing.T) {
	m := modelOf([]impl.Option{optionOf("B", "Y", "X"), optionOf("A", "X", "Y"), optionOf("C", "X")}, "!(A=X & B=X)")
	for s, want := range map[string]bool{
		"B=Y A=X C=X": true, "B=Y A=Y C=X": true, "B=X A=Y C=X": true,
		// a broken rule
		"B=X A=X C=X": false,
		// another order than that of the options
		"A=X B=Y C=X": false, "B=Y C=X A=X": false, "C=X A=X B=Y": false,
		// too few picks, or too many
		"": false, "B=Y": false, "B=Y A=X": false, "A=X C=X": false, "B=Y A=X C=X C=X": false, "B=Y A=X C=X D=X": false, "B=Y B=Y A=X C=X": false, "B=Y A=X A=X": false,
		// other values or options
		"B=Z A=X C=X": false, "B=Y A=X C=Y": false, "B=Y A=X D=X": false, "B=Y A=X =": false,
	} {
		if got := impl.IsChoice(m, picksOf(s)); got != want {
			t.Errorf("IsChoice(%s) is %v", s, got)
		}
	}
}

// machine is a model with rules that keep few choices.
func machine() impl.Model {
	options := []impl.Option{optionOf("SIZE", "S", "M", "L"), optionOf("MOTOR", "NONE", "E", "D"), optionOf("COLOR", "RED", "BLUE"), optionOf("ROOF", "YES", "NO")}
	return modelOf(options,
		"!(SIZE=S & MOTOR=D)",
		"!(MOTOR=NONE & ROOF=YES)",
		"!SIZE=L | MOTOR=D",
		"!COLOR=BLUE | ROOF=NO",
		"!(SIZE=M & MOTOR=E & COLOR=RED)",
	)
}

func TestCompleteChoice(t *testing.T) {
	for s, want := range map[string]string{
		"":                                 "SIZE=S MOTOR=NONE COLOR=RED ROOF=NO",
		"ROOF=YES":                         "SIZE=S MOTOR=E COLOR=RED ROOF=YES",
		"COLOR=BLUE":                       "SIZE=S MOTOR=NONE COLOR=BLUE ROOF=NO",
		"MOTOR=D":                          "SIZE=M MOTOR=D COLOR=RED ROOF=YES",
		"SIZE=L":                           "SIZE=L MOTOR=D COLOR=RED ROOF=YES",
		"ROOF=NO SIZE=L":                   "SIZE=L MOTOR=D COLOR=RED ROOF=NO",
		"MOTOR=E SIZE=M":                   "SIZE=M MOTOR=E COLOR=BLUE ROOF=NO",
		"ROOF=NO COLOR=RED SIZE=M":         "SIZE=M MOTOR=NONE COLOR=RED ROOF=NO",
		"ROOF=YES COLOR=RED MOTOR=D":       "SIZE=M MOTOR=D COLOR=RED ROOF=YES",
		"ROOF=NO COLOR=RED MOTOR=E SIZE=S": "SIZE=S MOTOR=E COLOR=RED ROOF=NO",
		// picks that all choices break
		"SIZE=S MOTOR=D": "", "MOTOR=NONE SIZE=L": "", "ROOF=YES COLOR=BLUE": "", "SIZE=M ROOF=YES MOTOR=E": "",
	} {
		got, ok := impl.CompleteChoice(machine(), picksOf(s))
		if textOfPicks(got) != want || ok != (want != "") {
			t.Errorf("CompleteChoice(%s) = %v, %v, not %s", s, got, ok, want)
		}
	}
}

func TestOpenValues(t *testing.T) {
	for _, v := range []struct {
		picks  string
		option string
		want   string
	}{
		{"", "SIZE", "S M L"}, {"", "MOTOR", "NONE E D"}, {"", "COLOR", "RED BLUE"}, {"", "ROOF", "YES NO"},
		{"SIZE=L", "MOTOR", "D"}, {"SIZE=S", "MOTOR", "NONE E"}, {"MOTOR=D", "SIZE", "M L"}, {"ROOF=YES", "MOTOR", "E D"}, {"MOTOR=NONE", "ROOF", "NO"},
		{"ROOF=YES", "COLOR", "RED"}, {"ROOF=YES MOTOR=E", "SIZE", "S"}, {"MOTOR=E SIZE=M", "COLOR", "BLUE"}, {"SIZE=M COLOR=RED", "MOTOR", "NONE D"},
		// an option that is picked already
		{"SIZE=L", "SIZE", "L"}, {"COLOR=BLUE SIZE=L", "SIZE", "L"}, {"SIZE=S MOTOR=E COLOR=RED ROOF=NO", "ROOF", "NO"},
		// picks that all choices break
		{"SIZE=S MOTOR=D", "COLOR", ""}, {"SIZE=S MOTOR=D", "SIZE", ""}, {"SIZE=M ROOF=YES MOTOR=E", "COLOR", ""},
		// an option that the model does not have
		{"", "NONE", ""}, {"", "", ""}, {"SIZE=S", "size", ""}, {"SIZE=S", "RED", ""},
	} {
		got := impl.OpenValues(machine(), picksOf(v.picks), v.option)
		if strings.Join(got, " ") != v.want {
			t.Errorf("OpenValues(%s, %q) = %q, not %q", v.picks, v.option, got, v.want)
		}
	}
}

func TestConflicts(t *testing.T) {
	for s, want := range map[string]string{
		// all are needed
		"SIZE=S MOTOR=D": "SIZE=S MOTOR=D", "MOTOR=D SIZE=S": "MOTOR=D SIZE=S", "MOTOR=E SIZE=M ROOF=YES": "MOTOR=E SIZE=M ROOF=YES", "COLOR=RED MOTOR=E SIZE=M": "COLOR=RED MOTOR=E SIZE=M",
		// the first one is left out
		"ROOF=YES SIZE=S MOTOR=D": "SIZE=S MOTOR=D", "COLOR=RED MOTOR=NONE SIZE=L": "MOTOR=NONE SIZE=L", "SIZE=S ROOF=YES COLOR=BLUE": "ROOF=YES COLOR=BLUE",
		// the last one is left out
		"SIZE=S MOTOR=D ROOF=YES": "SIZE=S MOTOR=D", "SIZE=L MOTOR=NONE COLOR=RED": "SIZE=L MOTOR=NONE", "ROOF=YES COLOR=BLUE MOTOR=E": "ROOF=YES COLOR=BLUE",
		// one between them
		"MOTOR=D COLOR=RED SIZE=S": "MOTOR=D SIZE=S",
		// several are left out
		"COLOR=RED SIZE=S ROOF=NO MOTOR=D": "SIZE=S MOTOR=D", "SIZE=S MOTOR=D COLOR=RED ROOF=YES": "SIZE=S MOTOR=D", "MOTOR=D COLOR=BLUE SIZE=M ROOF=YES": "COLOR=BLUE ROOF=YES",
		// of two conflicts the one that ends later is left
		"SIZE=S MOTOR=D COLOR=BLUE ROOF=YES": "COLOR=BLUE ROOF=YES", "COLOR=BLUE ROOF=YES SIZE=S MOTOR=D": "SIZE=S MOTOR=D", "COLOR=BLUE SIZE=S MOTOR=D ROOF=YES": "SIZE=S MOTOR=D", "SIZE=S COLOR=BLUE ROOF=YES MOTOR=D": "COLOR=BLUE ROOF=YES",
		"SIZE=L MOTOR=NONE ROOF=YES": "MOTOR=NONE ROOF=YES", "ROOF=YES MOTOR=NONE SIZE=L": "MOTOR=NONE SIZE=L",
	} {
		got, ok := impl.ConflictOf(machine(), picksOf(s))
		if textOfPicks(got) != want || !ok {
			t.Errorf("ConflictOf(%s) = %v, %v, not %s", s, got, ok, want)
		}
	}
	for _, s := range []string{"", "SIZE=L", "ROOF=YES MOTOR=E", "SIZE=S MOTOR=E COLOR=RED ROOF=NO", "ROOF=NO COLOR=RED MOTOR=E SIZE=S"} {
		if got, ok := impl.ConflictOf(machine(), picksOf(s)); ok || len(got) != 0 {
			t.Errorf("ConflictOf(%s) = %v, %v", s, got, ok)
		}
	}
	m := modelOf(aAndB(), "A=Y")
	for s, want := range map[string]string{"A=X": "A=X", "A=X B=X": "A=X", "B=X A=X": "A=X"} {
		if got, ok := impl.ConflictOf(m, picksOf(s)); textOfPicks(got) != want || !ok {
			t.Errorf("ConflictOf(%s) = %v, %v, not %s", s, got, ok, want)
		}
	}
}

// useVariants calls all functions of the chapter and returns what they return as a text.
func useVariants(m impl.Model, picks []impl.Pick) string {
	choice, ok := impl.CompleteChoice(m, picks)
	conflict, found := impl.ConflictOf(m, picks)
	open := impl.OpenValues(m, picks, "COLOR")
	text := fmt.Sprint(impl.IsModel(m), impl.IsPartial(m, picks), impl.IsChoice(m, picks), impl.ChoicesOf(m), choice, ok, conflict, found, open)
	// What is returned is the caller's, with all of its capacity.
	for _, l := range append(impl.ChoicesOf(m), choice, conflict) {
		l = l[:cap(l)]
		for i := range l {
			l[i] = impl.Pick{Option: "CHANGED", Value: "CHANGED"}
		}
	}
	open = open[:cap(open)]
	for i := range open {
		open[i] = "CHANGED"
	}
	return text
}

func TestVariantsStayAsTheyAre(t *testing.T) {
	all := picksOf("ROOF=YES SIZE=S MOTOR=D COLOR=BLUE COLOR=RED NONE=X")
	for n := range len(all) + 1 {
		m := machine()
		m.Options = append(m.Options, optionOf("SPARE", "X"))[:len(m.Options)]
		m.Rules = append(m.Rules, condTrue().list())[:len(m.Rules)]
		for i, o := range m.Options {
			m.Options[i].Values = append(slices.Clone(o.Values), "SPARE")[:len(o.Values)]
		}
		picks := slices.Clone(all)
		whole := func() string {
			text := fmt.Sprint(picks, m.Options[:len(m.Options)+1], m.Rules[:len(m.Rules)+1])
			for _, o := range m.Options {
				text += fmt.Sprint(o.Values[:len(o.Values)+1])
			}
			return text
		}
		before := whole()
		first := useVariants(m, picks[:n])
		second := useVariants(m, picks[:n])
		if whole() != before {
			t.Errorf("%s became %s", before, whole())
		}
		if first != second {
			t.Errorf("first %s, then %s", first, second)
		}
	}
}

func TestChoicesShareNoMemory(t *testing.T) {
	m := largestModels()[1]
	want := textsOfChoices(m.choices())
	choices := impl.ChoicesOf(m.model())
	for i := range choices {
		got := textsOfChoices(choices[i:])
		if !slices.Equal(got, want[i:]) {
			t.Fatalf("from %d on: %q, not %q", i, got, want[i:])
		}
		rest := choices[i][:cap(choices[i])]
		for k := range rest {
			rest[k] = impl.Pick{}
		}
	}
}

func TestVariantsFromManySides(t *testing.T) {
	models := append(largestModels()[:2], someModels()[:60]...)
	picks := picksOf("COLOR=Z SIZE=Z")
	var want []string
	for _, m := range models {
		want = append(want, useVariants(m.model(), picks))
	}
	var group sync.WaitGroup
	for range 8 {
		group.Go(func() {
			for i, m := range models {
				if got := useVariants(m.model(), picks); got != want[i] {
					t.Errorf("%s, not %s", got, want[i])
				}
			}
		})
	}
	group.Wait()
}

func TestNoGoroutineIsLeft(t *testing.T) {
	before := runtime.NumGoroutine()
	for _, m := range append(someModels(), largestModels()...) {
		useVariants(m.model(), nil)
	}
	for range 50 {
		useVariants(machine(), picksOf("ROOF=YES COLOR=BLUE"))
		useVariants(machine(), picksOf("ROOF=YES"))
	}
	// A goroutine that has closed its channel may need a moment to end.
	for range 100 {
		if runtime.NumGoroutine() <= before {
			return
		}
		time.Sleep(10 * time.Millisecond)
	}
	t.Errorf("%d goroutines, and %d before", runtime.NumGoroutine(), before)
}
