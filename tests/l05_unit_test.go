package tests

import (
	"cmp"
	"math"
	"math/big"
	"slices"
	"strconv"
	"strings"
	"testing"

	"loop.example/g03407/impl"
)

const (
	mostRules  = 12
	mostFactor = 1000
)

func TestLimitsOfUnits(t *testing.T) {
	if impl.MaxUnitRules != mostRules || impl.MaxFactor != mostFactor {
		t.Errorf("the limits are %d and %d", impl.MaxUnitRules, impl.MaxFactor)
	}
}

// unitRule is the rule that one unit from is n / d units to; n / d must be in lowest terms.
func unitRule(from string, to string, n int, d int) impl.UnitRule {
	return impl.UnitRule{From: from, To: to, Factor: impl.Ratio{Num: n, Den: d}}
}

// unitName returns a code for a number.
func unitName(n int) string { return "U" + strconv.Itoa(n) }

// unitChain returns rules with these factors, each from one unit to the next one.
func unitChain(factors ...impl.Ratio) []impl.UnitRule {
	var l []impl.UnitRule
	for i, f := range factors {
		l = append(l, impl.UnitRule{From: unitName(i), To: unitName(i + 1), Factor: f})
	}
	return l
}

// equalChain returns a chain of n rules with one factor.
func equalChain(n int, num int, den int) []impl.UnitRule {
	return unitChain(slices.Repeat([]impl.Ratio{{Num: num, Den: den}}, n)...)
}

// numberChain returns a chain of rules with whole factors.
func numberChain(factors ...int) []impl.UnitRule {
	var l []impl.Ratio
	for _, n := range factors {
		l = append(l, impl.Ratio{Num: n, Den: 1})
	}
	return unitChain(l...)
}

// turnedRule returns the rule that says the same in the other direction.
func turnedRule(r impl.UnitRule) impl.UnitRule {
	return unitRule(r.To, r.From, r.Factor.Den, r.Factor.Num)
}

func turnedAll(rules []impl.UnitRule) []impl.UnitRule {
	var l []impl.UnitRule
	for _, r := range rules {
		l = append(l, turnedRule(r))
	}
	return l
}

// unitStar returns n rules from one unit to as many others.
func unitStar(n int, num int, den int) []impl.UnitRule {
	var l []impl.UnitRule
	for i := range n {
		l = append(l, unitRule("HUB", unitName(i), num, den))
	}
	return l
}

// rulesAlike returns n times one rule.
func rulesAlike(n int, r impl.UnitRule) []impl.UnitRule { return slices.Repeat([]impl.UnitRule{r}, n) }

// unitWay is a way from one unit to another one over the rules with these indices.
type unitWay struct {
	to     string
	steps  []int
	factor *big.Rat
}

// waysOf returns all ways from a unit that come to no unit twice.
func waysOf(rules []impl.UnitRule, from string) []unitWay {
	return longerWays(rules, unitWay{to: from, factor: fraction(1, 1)}, []string{from})
}

// longerWays returns a way and all those that begin with it; the units where it has been are not come to again.
func longerWays(rules []impl.UnitRule, w unitWay, been []string) []unitWay {
	all := []unitWay{w}
	for i, r := range rules {
		to, factor := r.To, exact(r.Factor)
		if r.To == w.to {
			to, factor = r.From, factor.Inv(factor)
		} else if r.From != w.to {
			continue
		}
		if !slices.Contains(been, to) {
			next := unitWay{to: to, steps: append(slices.Clone(w.steps), i), factor: factor.Mul(factor, w.factor)}
			all = append(all, longerWays(rules, next, append(slices.Clone(been), to))...)
		}
	}
	return all
}

// isSoundRule reports whether a rule is valid by itself.
func isSoundRule(r impl.UnitRule) bool {
	f := r.Factor
	if f.Num < 1 || f.Num > mostFactor || f.Den < 1 || f.Den > mostFactor || fraction(f.Num, f.Den).Num().Int64() != int64(f.Num) {
		return false
	}
	return impl.IsCode(r.From) && impl.IsCode(r.To) && r.From != r.To
}

// unitsIn returns the units of the rules, each once.
func unitsIn(rules []impl.UnitRule) []string {
	var l []string
	for _, r := range rules {
		l = append(l, r.From, r.To)
	}
	slices.Sort(l)
	return slices.Compact(l)
}

// isSoundTable reports whether rules are a table of units: it goes all ways from all units.
func isSoundTable(rules []impl.UnitRule) bool {
	if len(rules) > mostRules {
		return false
	}
	for _, r := range rules {
		if !isSoundRule(r) {
			return false
		}
	}
	for _, from := range unitsIn(rules) {
		factors := map[string]*big.Rat{}
		for _, w := range waysOf(rules, from) {
			if f, found := factors[w.to]; found && f.Cmp(w.factor) != 0 || ratioFrom(w.factor) == (impl.Ratio{}) {
				return false
			}
			factors[w.to] = w.factor
		}
	}
	return true
}

// nearestWays returns for each unit that is reached from one the way with the fewest rules, and of these the one whose rules come first; they are in the order in which UnitsFrom names the units.
func nearestWays(rules []impl.UnitRule, from string) []unitWay {
	ways := waysOf(rules, from)
	slices.SortFunc(ways, func(a unitWay, b unitWay) int {
		return cmp.Or(cmp.Compare(len(a.steps), len(b.steps)), slices.Compare(a.steps, b.steps))
	})
	var nearest []unitWay
	for _, w := range ways {
		if !slices.ContainsFunc(nearest, func(n unitWay) bool { return n.to == w.to }) {
			nearest = append(nearest, w)
		}
	}
	return nearest
}

// someTables returns valid tables of units.
func someTables() [][]impl.UnitRule {
	pieces := []impl.UnitRule{unitRule("DOZ", "PC", 12, 1), unitRule("BOX", "DOZ", 5, 2)}
	return [][]impl.UnitRule{
		nil, {}, pieces,
		append(slices.Clone(pieces), unitRule("BOX", "PC", 30, 1)),
		append(slices.Clone(pieces), unitRule("PC", "BOX", 1, 30)),
		// parts that no way joins
		append(slices.Clone(pieces), unitRule("KG", "G", 1000, 1), unitRule("T", "KG", 1000, 1), unitRule("L", "ML", 1000, 1)),
		{unitRule("A", "B", 1000, 1), unitRule("C", "D", 1000, 1), unitRule("E", "F", 1000, 1), unitRule("G", "H", 1000, 1), unitRule("I", "J", 1000, 1)},
		// a factor of 1
		{unitRule("A", "B", 1, 1)}, {unitRule("A", "B", 1, 1), unitRule("B", "C", 1, 1), unitRule("C", "A", 1, 1)},
		// two rules between the same two units
		{unitRule("A", "B", 3, 7), unitRule("A", "B", 3, 7)}, {unitRule("A", "B", 3, 7), unitRule("B", "A", 7, 3)},
		rulesAlike(mostRules, unitRule("A", "B", 999, 1000)),
		// circles, also one in which one way has a factor that is a ratio only at its end
		{unitRule("A", "B", 2, 1), unitRule("B", "C", 3, 1), unitRule("C", "A", 1, 6)},
		{unitRule("A", "B", 2, 1), unitRule("B", "C", 3, 1), unitRule("A", "C", 6, 1)},
		{unitRule("A", "B", 2, 3), unitRule("C", "B", 4, 5), unitRule("C", "D", 1, 7), unitRule("A", "D", 5, 42)},
		{unitRule("A", "B", 1000, 1), unitRule("B", "C", 1000, 1), unitRule("D", "C", 1000, 1), unitRule("A", "D", 1000, 1)},
		// factors of ways up to the greatest ratio, and down to the least one
		equalChain(3, 1000, 1), equalChain(3, 1, 1000), equalChain(3, 999, 1000), equalChain(3, 1000, 999),
		numberChain(500, 500, 500, 8), numberChain(8, 500, 500, 500), turnedAll(numberChain(500, 500, 500, 8)),
		{unitRule("HUB", "A", 1000, 1), unitRule("A", "B", 1000, 1), unitRule("HUB", "C", 1, 1000)},
		// as many rules as there may be
		equalChain(mostRules, 1, 1), equalChain(mostRules, 5, 1), equalChain(mostRules, 1, 5), equalChain(mostRules, 3, 5),
		unitStar(mostRules, 1000, 1), unitStar(mostRules, 1, 1000), unitStar(mostRules, 997, 991), turnedAll(unitStar(mostRules, 997, 991)),
		// the shortest and the longest codes
		{unitRule("ABCDEFGH", "A-------", 2, 1), unitRule("A", "A-------", 4, 1)},
	}
}

// unfitRules returns rules that are not valid by themselves.
func unfitRules() []impl.UnitRule {
	l := []impl.UnitRule{
		{}, {From: "A", To: "B"}, {Factor: impl.Ratio{Num: 1, Den: 1}},
		// equal units
		unitRule("A", "A", 1, 1), unitRule("A", "A", 2, 1), unitRule("PC", "PC", 1, 1),
		// factors in other than lowest terms
		unitRule("A", "B", 2, 2), unitRule("A", "B", 2, 4), unitRule("A", "B", 6, 3), unitRule("A", "B", 1000, 1000), unitRule("A", "B", 1000, 2), unitRule("A", "B", 15, 1000),
	}
	for _, code := range noCodes() {
		l = append(l, unitRule(code, "B", 2, 1), unitRule("A", code, 2, 1), unitRule(code, code, 1, 1))
	}
	for _, n := range []int{0, -1, -2, -1000, mostFactor + 1, 2 * mostFactor, most, most + 1, 1 << 32, math.MaxInt, math.MinInt, math.MinInt + 1} {
		l = append(l, unitRule("A", "B", n, 1), unitRule("A", "B", 1, n), unitRule("A", "B", n, 1000), unitRule("A", "B", 1000, n), unitRule("A", "B", n, n))
	}
	return l
}

// noCodes returns texts that are no codes.
func noCodes() []string {
	return []string{"", "a", "Ab", "1", "1A", "-", "-A", "A B", " A", "A ", "A.", "A\x00", "\xff", "\u00c9", "A\u00c9", "ABCDEFGHI", strings.Repeat("A", 1000)}
}

// noTables returns rules that are no table of units.
func noTables() [][]impl.UnitRule {
	pieces := []impl.UnitRule{unitRule("DOZ", "PC", 12, 1), unitRule("BOX", "DOZ", 5, 2)}
	apart := []impl.UnitRule{unitRule("KG", "G", 1000, 1), unitRule("T", "KG", 1000, 1)}
	l := [][]impl.UnitRule{
		// too many rules
		rulesAlike(mostRules+1, unitRule("A", "B", 2, 1)), equalChain(mostRules+1, 1, 1), unitStar(mostRules+1, 1000, 1), rulesAlike(2000, unitRule("A", "B", 2, 1)), equalChain(2000, 1, 1),
		// two rules between the same two units that do not agree
		{unitRule("A", "B", 2, 1), unitRule("A", "B", 3, 1)}, {unitRule("A", "B", 2, 1), unitRule("B", "A", 2, 1)}, {unitRule("A", "B", 3, 7), unitRule("B", "A", 3, 7)},
		{unitRule("A", "B", 2, 1), unitRule("A", "B", 1, 2)}, {unitRule("A", "B", 1000, 999), unitRule("A", "B", 999, 998)},
		append(rulesAlike(mostRules-1, unitRule("A", "B", 2, 1)), unitRule("B", "A", 1, 1)),
		// circles that do not agree
		append(slices.Clone(pieces), unitRule("BOX", "PC", 31, 1)), append(slices.Clone(pieces), unitRule("PC", "BOX", 30, 1)),
		{unitRule("A", "B", 2, 1), unitRule("B", "C", 3, 1), unitRule("C", "A", 6, 1)},
		{unitRule("A", "B", 1, 1), unitRule("B", "C", 1, 1), unitRule("C", "A", 1000, 999)},
		append(equalChain(mostRules-1, 1, 1), unitRule(unitName(mostRules-1), unitName(0), 2, 1)),
		// a circle that does not agree, behind units or in a part that no way joins
		append(slices.Clone(pieces), unitRule("BOX", "PAL", 1, 9), unitRule("PAL", "LOAD", 1, 2), unitRule("LOAD", "BOX", 19, 1)),
		append(slices.Clone(pieces), append(slices.Clone(apart), unitRule("T", "G", 1000, 1))...),
		append(slices.Clone(apart), append(slices.Clone(pieces), unitRule("BOX", "PC", 29, 1))...),
		// factors that are no ratios, at the ends of a way
		equalChain(4, 1000, 1), equalChain(4, 1, 1000), equalChain(4, 999, 1000), equalChain(4, 1000, 999), equalChain(mostRules, 6, 1), equalChain(mostRules, 1, 6),
		numberChain(504, 109, 109, 167), numberChain(167, 109, 109, 504), turnedAll(numberChain(504, 109, 109, 167)),
		append(slices.Clone(pieces), equalChain(4, 1000, 1)...),
		// no ratios only between two units that all rules lead to, or from
		{unitRule("HUB", "X", 1000, 1), unitRule("X", "A", 1000, 1), unitRule("HUB", "Y", 1, 1000), unitRule("Y", "B", 1, 1000)},
		turnedAll([]impl.UnitRule{unitRule("HUB", "X", 1000, 1), unitRule("X", "A", 1000, 1), unitRule("HUB", "Y", 1, 1000), unitRule("Y", "B", 1, 1000)}),
		{unitRule("HUB", "X", 997, 991), unitRule("X", "A", 983, 977), unitRule("HUB", "Y", 971, 967), unitRule("Y", "B", 953, 947)},
		// no ratio on the way to one
		append(numberChain(1000, 1000, 1000, 1000), unitRule("U5", "U4", 1000, 1)),
		append(numberChain(1000, 1000, 1000, 1000), unitRule("U4", "U0", 1, 1000)),
	}
	for _, r := range unfitRules() {
		l = append(l, []impl.UnitRule{r}, []impl.UnitRule{r, r}, append(slices.Clone(pieces), r), append([]impl.UnitRule{r}, pieces...))
		l = append(l, append(equalChain(mostRules-1, 1, 1), r))
	}
	return l
}

// askedUnits returns the units of the rules and two more.
func askedUnits(rules []impl.UnitRule) []string {
	l := append(unitsIn(rules), "NONE", "Z-9")
	if len(l) > 30 {
		return l[:30]
	}
	return l
}

// checkUnits checks which units are reached, in what order and with what factors; the rules must be a table.
func checkUnits(t *testing.T, rules []impl.UnitRule) {
	t.Helper()
	asked := askedUnits(rules)
	for _, from := range asked {
		var names []string
		factors := map[string]impl.Ratio{}
		for _, w := range nearestWays(rules, from) {
			names = append(names, w.to)
			factors[w.to] = ratioFrom(w.factor)
		}
		if l := impl.UnitsFrom(rules, from); !slices.Equal(l, names) {
			t.Errorf("UnitsFrom(%v, %q) = %q, not %q", rules, from, l, names)
		}
		for _, to := range asked {
			want, found := factors[to]
			if f, ok := impl.FactorOf(rules, from, to); f != want || ok != found {
				t.Errorf("FactorOf(%v, %q, %q) = %v, %v, not %v, %v", rules, from, to, f, ok, want, found)
			}
		}
	}
}

// checkNoConversion checks that there is no factor from one unit to another one, nor any quantity.
func checkNoConversion(t *testing.T, rules []impl.UnitRule, from string, to string) {
	t.Helper()
	if f, ok := impl.FactorOf(rules, from, to); f != (impl.Ratio{}) || ok {
		t.Errorf("FactorOf(%v, %q, %q) = %v, %v", rules, from, to, f, ok)
	}
	for _, q := range []int{0, 1000, -1} {
		checkNoQuantity(t, rules, from, to, q)
	}
}

func checkNoQuantity(t *testing.T, rules []impl.UnitRule, from string, to string, q int) {
	t.Helper()
	if n, ok := impl.ConvertUp(rules, from, to, q); n != 0 || ok {
		t.Errorf("ConvertUp(%v, %q, %q, %d) = %d, %v", rules, from, to, q, n, ok)
	}
	if n, ok := impl.ConvertDown(rules, from, to, q); n != 0 || ok {
		t.Errorf("ConvertDown(%v, %q, %q, %d) = %d, %v", rules, from, to, q, n, ok)
	}
}

// checkNoUnits checks that without a table there are no units, not even the one that is asked for.
func checkNoUnits(t *testing.T, rules []impl.UnitRule) {
	t.Helper()
	asked := askedUnits(rules[:min(len(rules), 3)])
	for _, from := range asked {
		if l := impl.UnitsFrom(rules, from); len(l) != 0 {
			t.Errorf("UnitsFrom(%v, %q) = %q", rules, from, l)
		}
		for _, to := range asked {
			checkNoConversion(t, rules, from, to)
		}
	}
}

func TestIsUnitTable(t *testing.T) {
	for _, rules := range someTables() {
		if !impl.IsUnitTable(rules) || !isSoundTable(rules) {
			t.Errorf("%v is no table", rules)
		}
		checkUnits(t, rules)
	}
	for _, rules := range noTables() {
		if impl.IsUnitTable(rules) || isSoundTable(rules) {
			t.Errorf("%v is a table", rules)
		}
		checkNoUnits(t, rules)
	}
}

// TestOrderOfRulesInTables has the rules backwards in their order, and turned: it is a table as before or not.
func TestOrderOfRulesInTables(t *testing.T) {
	for i, l := range [][][]impl.UnitRule{someTables(), noTables()} {
		for _, rules := range l {
			reversed := slices.Clone(rules)
			slices.Reverse(reversed)
			if impl.IsUnitTable(reversed) != (i == 0) || impl.IsUnitTable(turnedAll(rules)) != (i == 0) {
				t.Errorf("IsUnitTable of %v, backwards or turned, is %v", rules, i != 0)
			}
			if i == 0 {
				checkUnits(t, reversed)
				checkUnits(t, turnedAll(rules))
			}
		}
	}
}

func TestFactorsOfRules(t *testing.T) {
	ends := []int{-1, 0, 1, 2, 3, 500, 998, mostFactor - 1, mostFactor, mostFactor + 1, mostFactor + 2}
	for _, n := range ends {
		for _, d := range ends {
			r := unitRule("A", "B", n, d)
			if impl.IsUnitTable([]impl.UnitRule{r}) != isSoundRule(r) {
				t.Errorf("IsUnitTable of a rule with the factor %v is %v", r.Factor, !isSoundRule(r))
			}
		}
	}
}

func TestNumberOfRules(t *testing.T) {
	for n := range 2 * mostRules {
		for _, rules := range [][]impl.UnitRule{rulesAlike(n, unitRule("A", "B", 2, 1)), equalChain(n, 1, 1), unitStar(n, 1000, 1)} {
			if impl.IsUnitTable(rules) != (n <= mostRules) {
				t.Errorf("IsUnitTable of %d rules is %v", n, n > mostRules)
			}
		}
	}
}

// TestSmallTables takes all lists of up to three rules over three units: two of the same two units, circles, and parts apart.
func TestSmallTables(t *testing.T) {
	var all []impl.UnitRule
	for _, f := range []impl.Ratio{{Num: 1, Den: 1}, {Num: 2, Den: 1}, {Num: 1, Den: 2}, {Num: 4, Den: 1}} {
		for _, ends := range []string{"AB", "BA", "AC", "CA", "BC", "CB"} {
			all = append(all, unitRule(ends[:1], ends[1:], f.Num, f.Den))
		}
	}
	tables := 0
	for _, choice := range listsOver(indicesOf(len(all)), 3) {
		rules := chosenRules(all, choice)
		want := isSoundTable(rules)
		if impl.IsUnitTable(rules) != want {
			t.Errorf("IsUnitTable(%v) is %v", rules, !want)
		}
		if !want {
			checkNoTable(t, rules)
			continue
		}
		tables++
		checkUnits(t, rules)
	}
	if tables < 1000 {
		t.Errorf("only %d of the lists are tables", tables)
	}
}

func indicesOf(n int) []int {
	var l []int
	for i := range n {
		l = append(l, i)
	}
	return l
}

// chosenRules returns the rules with these indices.
func chosenRules(all []impl.UnitRule, choice []int) []impl.UnitRule {
	var l []impl.UnitRule
	for _, i := range choice {
		l = append(l, all[i])
	}
	return l
}

// checkNoTable is checkNoUnits with fewer questions.
func checkNoTable(t *testing.T, rules []impl.UnitRule) {
	t.Helper()
	from, to := rules[0].From, rules[0].To
	if l := impl.UnitsFrom(rules, from); len(l) != 0 {
		t.Errorf("UnitsFrom(%v, %q) = %q", rules, from, l)
	}
	for _, unit := range []string{from, to, "NONE"} {
		if f, ok := impl.FactorOf(rules, unit, from); f != (impl.Ratio{}) || ok {
			t.Errorf("FactorOf(%v, %q, %q) = %v, %v", rules, unit, from, f, ok)
		}
		checkNoQuantity(t, rules, unit, to, 1000)
	}
}

// TestOrderOfUnits takes tables over five units in all orders, in which a unit is reached on many ways.
func TestOrderOfUnits(t *testing.T) {
	sizes := []int{1, 2, 6, 30, 15}
	var all []impl.UnitRule
	for i, a := range sizes {
		for k, b := range sizes[:i] {
			f := ratioFrom(fraction(a, b))
			all = append(all, impl.UnitRule{From: unitName(i), To: unitName(k), Factor: f})
		}
	}
	for _, choice := range listsOver(indicesOf(len(all)), 4) {
		rules := chosenRules(all, choice)
		// Every other rule is written down the other way round.
		for i := 1; i < len(rules); i += 2 {
			rules[i] = turnedRule(rules[i])
		}
		for _, from := range []string{unitName(0), unitName(3)} {
			var names []string
			for _, w := range nearestWays(rules, from) {
				names = append(names, w.to)
			}
			if l := impl.UnitsFrom(rules, from); !slices.Equal(l, names) {
				t.Errorf("UnitsFrom(%v, %q) = %q, not %q", rules, from, l, names)
			}
		}
	}
	for range all {
		all = append(all[1:], all[0])
		checkUnits(t, all)
	}
}

// TestLongWays has chains whose factors are ratios from some units and not from others.
func TestLongWays(t *testing.T) {
	factors := []impl.Ratio{{Num: 1000, Den: 1}, {Num: 1, Den: 1000}, {Num: 999, Den: 1000}}
	tables := 0
	for n, choice := range listsOver(indicesOf(len(factors)), 5) {
		var l []impl.Ratio
		for _, i := range choice {
			l = append(l, factors[i])
		}
		rules := unitChain(l...)
		for i := range rules {
			if n>>i&1 == 1 {
				rules[i] = turnedRule(rules[i])
			}
		}
		want := isSoundTable(rules)
		if impl.IsUnitTable(rules) != want {
			t.Errorf("IsUnitTable(%v) is %v", rules, !want)
		}
		if want {
			tables++
			checkUnits(t, rules)
		} else {
			checkNoTable(t, rules)
		}
	}
	if tables < 100 {
		t.Errorf("only %d of the chains are tables", tables)
	}
}

// TestUnitsOutsideTables asks for units that are in no rule, and for texts that are no units.
func TestUnitsOutsideTables(t *testing.T) {
	one := impl.Ratio{Num: 1, Den: 1}
	for _, rules := range someTables() {
		for _, unit := range []string{"NONE", "Z", "U-", "ZZZZZZZZ"} {
			if l := impl.UnitsFrom(rules, unit); !slices.Equal(l, []string{unit}) {
				t.Errorf("UnitsFrom(%v, %q) = %q", rules, unit, l)
			}
			if f, ok := impl.FactorOf(rules, unit, unit); f != one || !ok {
				t.Errorf("FactorOf(%v, %q, %q) = %v, %v", rules, unit, unit, f, ok)
			}
			for _, q := range []int{0, 1, 25, mostAmount} {
				up, upOK := impl.ConvertUp(rules, unit, unit, q)
				down, downOK := impl.ConvertDown(rules, unit, unit, q)
				if up != q || !upOK || down != q || !downOK {
					t.Errorf("%d of %q are %d, %v and %d, %v of the same", q, unit, up, upOK, down, downOK)
				}
			}
			for _, other := range append(endUnits(rules), "Y") {
				checkNoConversion(t, rules, unit, other)
				checkNoConversion(t, rules, other, unit)
			}
		}
		for _, text := range noCodes() {
			if l := impl.UnitsFrom(rules, text); len(l) != 0 {
				t.Errorf("UnitsFrom(%v, %q) = %q", rules, text, l)
			}
			checkNoConversion(t, rules, text, text)
			for _, unit := range append(endUnits(rules), "NONE") {
				checkNoConversion(t, rules, text, unit)
				checkNoConversion(t, rules, unit, text)
			}
		}
	}
}

// factorTable returns the factors between all pairs of the units.
func factorTable(rules []impl.UnitRule, units []string) [][]impl.Ratio {
	var l [][]impl.Ratio
	for _, a := range units {
		var row []impl.Ratio
		for _, b := range units {
			f, _ := impl.FactorOf(rules, a, b)
			row = append(row, f)
		}
		l = append(l, row)
	}
	return l
}

// checkThirdUnits goes from one of the units to another one by way of each third one, and back.
func checkThirdUnits(t *testing.T, rules []impl.UnitRule, units []string) {
	t.Helper()
	factors := factorTable(rules, units)
	for a, there := range factors {
		for b, f := range there {
			if factors[b][a] != (impl.Ratio{Num: f.Den, Den: f.Num}) {
				t.Errorf("%v: from %q to %q %v, but back %v", rules, units[a], units[b], f, factors[b][a])
			}
			for c, on := range factors[b] {
				if new(big.Rat).Mul(exact(f), exact(on)).Cmp(exact(there[c])) != 0 {
					t.Errorf("%v: from %q over %q to %q %v, but %v", rules, units[a], units[b], units[c], on, there[c])
				}
			}
		}
	}
}

func TestFactorsOverThirdUnits(t *testing.T) {
	for _, rules := range someTables() {
		for _, unit := range unitsIn(rules) {
			if l := impl.UnitsFrom(rules, unit); slices.Index(unitsIn(rules), unit) == 0 || len(l) < 5 {
				checkThirdUnits(t, rules, l)
			}
		}
		for _, r := range rules {
			if f, ok := impl.FactorOf(rules, r.From, r.To); f != r.Factor || !ok {
				t.Errorf("FactorOf of the rule %v is %v, %v", r, f, ok)
			}
		}
	}
}

// endUnits returns the units of the rules, or of many ones only the first, a middle and the last one.
func endUnits(rules []impl.UnitRule) []string {
	l := unitsIn(rules)
	if len(l) > 5 {
		return []string{l[0], l[len(l)/2], l[len(l)-1]}
	}
	return l
}

// exactQuantity returns the quantity in the other unit, rounded up and down.
func exactQuantity(f impl.Ratio, q int) (int, int) {
	x := new(big.Rat).Mul(exact(f), fraction(q, 1))
	down, rest := new(big.Int).QuoRem(x.Num(), x.Denom(), new(big.Int))
	up := int(down.Int64())
	if rest.Sign() > 0 {
		up++
	}
	return up, int(down.Int64())
}

// upToMost returns n and true, or 0 and false if it is greater than the greatest amount.
func upToMost(n int) (int, bool) {
	if n > mostAmount {
		return 0, false
	}
	return n, true
}

// someQuantities returns small quantities, the greatest ones, and those whose conversion is near to the greatest amount.
func someQuantities(f impl.Ratio) []int {
	l := []int{mostAmount / 2, mostAmount/2 + 1, mostAmount - 2, mostAmount - 1, mostAmount}
	for q := range 12 {
		l = append(l, q)
	}
	for d := -3; d <= 3; d++ {
		l = append(l, f.Den+d, mostAmount/f.Num+d, mostAmount*f.Den/f.Num+d, (mostAmount+1)*f.Den/f.Num+d)
	}
	return slices.DeleteFunc(l, func(q int) bool { return q < 0 || q > mostAmount })
}

// checkQuantities checks the conversions of some quantities from one unit to another one, of which it is f.
func checkQuantities(t *testing.T, rules []impl.UnitRule, from string, to string, f impl.Ratio) {
	t.Helper()
	for _, q := range someQuantities(f) {
		up, down := exactQuantity(f, q)
		wantUp, foundUp := upToMost(up)
		if n, ok := impl.ConvertUp(rules, from, to, q); n != wantUp || ok != foundUp {
			t.Errorf("ConvertUp(%v, %q, %q, %d) = %d, %v, not %d, %v", rules, from, to, q, n, ok, wantUp, foundUp)
		}
		wantDown, foundDown := upToMost(down)
		if n, ok := impl.ConvertDown(rules, from, to, q); n != wantDown || ok != foundDown {
			t.Errorf("ConvertDown(%v, %q, %q, %d) = %d, %v, not %d, %v", rules, from, to, q, n, ok, wantDown, foundDown)
		}
	}
	for _, q := range []int{-1, -2, -1000, -mostAmount, mostAmount + 1, mostAmount + 2, 1 << 32, 1 << 62, math.MaxInt, math.MaxInt - 1, math.MinInt, math.MinInt + 1} {
		checkNoQuantity(t, rules, from, to, q)
	}
}

func TestConvert(t *testing.T) {
	for _, rules := range someTables() {
		for _, from := range endUnits(rules) {
			for _, w := range nearestWays(rules, from) {
				if slices.Contains(endUnits(rules), w.to) {
					checkQuantities(t, rules, from, w.to, ratioFrom(w.factor))
				}
			}
		}
	}
}

// TestConvertWithAllKindsOfFactors has a table of two rules, the products of whose factors have all kinds of sizes.
func TestConvertWithAllKindsOfFactors(t *testing.T) {
	numbers := []int{1, 2, 3, 7, 31, 32, 500, 997, 999, 1000}
	for _, n := range numbers {
		for _, d := range numbers {
			for _, m := range numbers {
				f, g := ratioFrom(fraction(n, d)), ratioFrom(fraction(d, m))
				rules := unitChain(f, g)
				checkQuantities(t, rules, "U0", "U2", ratioFrom(fraction(n, m)))
				rules = []impl.UnitRule{{From: "A", To: "B", Factor: f}, {From: "C", To: "B", Factor: g}}
				h := new(big.Rat).Quo(exact(f), exact(g))
				checkQuantities(t, rules, "A", "C", ratioFrom(h))
			}
		}
	}
}

// checkNothingLost converts a quantity up and back down: that is at least the quantity, and with one less it would not be.
func checkNothingLost(t *testing.T, rules []impl.UnitRule, from string, to string, q int) {
	t.Helper()
	n, ok := impl.ConvertUp(rules, from, to, q)
	if !ok {
		return
	}
	// A way back that leads beyond the greatest amount has not lost anything.
	if back, ok := impl.ConvertDown(rules, to, from, n); ok && back < q {
		t.Errorf("%v: %d %q are %d %q, but only %d back", rules, q, from, n, to, back)
	}
	if q == 0 {
		return
	}
	if back, ok := impl.ConvertDown(rules, to, from, n-1); !ok || back >= q {
		t.Errorf("%v: %d %q need no %d %q, as one less are %d, %v", rules, q, from, n, to, back, ok)
	}
}

func TestRoundingUpLosesNothing(t *testing.T) {
	for _, rules := range someTables() {
		for _, from := range endUnits(rules) {
			for _, to := range endUnits(rules) {
				f, ok := impl.FactorOf(rules, from, to)
				if !ok {
					continue
				}
				for _, q := range someQuantities(f) {
					checkNothingLost(t, rules, from, to, q)
				}
			}
		}
	}
}

func TestUnitCases(t *testing.T) {
	rules := []impl.UnitRule{unitRule("DOZ", "PC", 12, 1), unitRule("BOX", "DOZ", 5, 2), unitRule("BOX", "KG", 3, 2), unitRule("LOAD", "BOX", 1000, 1)}
	for _, k := range []struct{ from, units string }{
		{"PC", "PC DOZ BOX KG LOAD"}, {"DOZ", "DOZ PC BOX KG LOAD"}, {"BOX", "BOX DOZ KG LOAD PC"}, {"KG", "KG BOX DOZ LOAD PC"}, {"LOAD", "LOAD BOX DOZ KG PC"}, {"TON", "TON"},
	} {
		if l := strings.Join(impl.UnitsFrom(rules, k.from), " "); l != k.units {
			t.Errorf("UnitsFrom(%q) = %s, not %s", k.from, l, k.units)
		}
	}
	for _, k := range []struct {
		from, to string
		n, d     int
	}{
		{"BOX", "PC", 30, 1}, {"PC", "BOX", 1, 30}, {"PC", "KG", 1, 20}, {"KG", "PC", 20, 1}, {"KG", "DOZ", 5, 3}, {"LOAD", "PC", 30000, 1}, {"KG", "LOAD", 1, 1500}, {"DOZ", "DOZ", 1, 1},
	} {
		if f, ok := impl.FactorOf(rules, k.from, k.to); f != (impl.Ratio{Num: k.n, Den: k.d}) || !ok {
			t.Errorf("FactorOf(%q, %q) = %v, %v", k.from, k.to, f, ok)
		}
	}
	for _, k := range []struct {
		from, to    string
		q, up, down int
	}{
		{"PC", "DOZ", 25, 3, 2}, {"PC", "DOZ", 24, 2, 2}, {"PC", "DOZ", 1, 1, 0}, {"PC", "DOZ", 0, 0, 0}, {"BOX", "DOZ", 3, 8, 7}, {"BOX", "DOZ", 4, 10, 10}, {"KG", "DOZ", 1, 2, 1}, {"KG", "DOZ", 2, 4, 3},
		{"PC", "LOAD", mostAmount, 33334, 33333}, {"PC", "LOAD", 1, 1, 0}, {"LOAD", "PC", 33333, 999990000, 999990000},
		{"BOX", "KG", 666666666, 999999999, 999999999}, {"DOZ", "PC", 83333333, 999999996, 999999996}, {"BOX", "DOZ", 400000000, mostAmount, mostAmount},
		{"PC", "PC", mostAmount, mostAmount, mostAmount},
	} {
		if n, ok := impl.ConvertUp(rules, k.from, k.to, k.q); n != k.up || !ok {
			t.Errorf("ConvertUp(%q, %q, %d) = %d, %v, not %d", k.from, k.to, k.q, n, ok, k.up)
		}
		if n, ok := impl.ConvertDown(rules, k.from, k.to, k.q); n != k.down || !ok {
			t.Errorf("ConvertDown(%q, %q, %d) = %d, %v, not %d", k.from, k.to, k.q, n, ok, k.down)
		}
	}
	// A half beyond the greatest amount is too much only if it is rounded up.
	if n, ok := impl.ConvertUp(rules, "BOX", "KG", 666666667); n != 0 || ok {
		t.Errorf("ConvertUp = %d, %v", n, ok)
	}
	if n, ok := impl.ConvertDown(rules, "BOX", "KG", 666666667); n != mostAmount || !ok {
		t.Errorf("ConvertDown = %d, %v", n, ok)
	}
	for _, q := range []int{666666668, mostAmount} {
		checkNoQuantity(t, rules, "BOX", "KG", q)
	}
	checkNoQuantity(t, rules, "DOZ", "PC", 83333334)
	checkNoQuantity(t, rules, "BOX", "DOZ", 400000001)
	checkNoConversion(t, rules, "PC", "TON")
}

// TestUnitsStayAsTheyAre checks that arguments are not modified, nor is their unused capacity, and that each result is new.
func TestUnitsStayAsTheyAre(t *testing.T) {
	rules := append(numberChain(2, 3, 5), unitRule("KEPT", "AS-IT-IS", 7, 1))
	kept := slices.Clone(rules)
	for range 2 {
		units := impl.UnitsFrom(rules[:3], "U3")
		if !slices.Equal(units, []string{"U3", "U2", "U1", "U0"}) {
			t.Errorf("UnitsFrom = %q", units)
		}
		units = append(units[:2], "X", "Y")
		units[0], units[1] = "V", "W"
		impl.IsUnitTable(rules[:3])
		impl.FactorOf(rules[:3], "U0", "U3")
		impl.ConvertUp(rules[:3], "U0", "U3", 7)
		impl.ConvertDown(rules[:3], "U3", "U0", 7)
		if !slices.Equal(rules, kept) {
			t.Errorf("the rules are now %v", rules)
		}
	}
}
