package tests

import (
	"fmt"
	"math"
	"math/rand"
	"reflect"
	"slices"
	"strings"
	"testing"

	"loop.example/g03407/impl"
)

// The largest numbers that the document allows.
const (
	mostLines = 24
	mostPer   = 1000
)

func TestConstantsOfBills(t *testing.T) {
	if impl.MaxLines != mostLines || impl.MaxPer != mostPer {
		t.Errorf("MaxLines = %d, MaxPer = %d", impl.MaxLines, impl.MaxPer)
	}
}

// allNames are the codes of the largest catalogs.
const allNames = "A B C D E F G H I J K L"

// madeItems returns a catalog of made items with the codes of a text.
func madeItems(names string) []impl.Item {
	var l []impl.Item
	for _, code := range strings.Fields(names) {
		l = append(l, madeItem(code))
	}
	return l
}

func madeItem(code string) impl.Item {
	return impl.Item{Code: code, Unit: "PC", Kind: impl.ItemMade, Lead: 2}
}

// lineFrom returns a line that is always in force.
func lineFrom(parent string, part string) impl.BillLine {
	return impl.BillLine{Parent: parent, Part: part, Quantity: 1, Until: mostDay, When: condTrue().list()}
}

// linesFrom returns the lines of a text such as A>B B>C, with the quantities 1, 2 and so on.
func linesFrom(s string) []impl.BillLine {
	var l []impl.BillLine
	for i, word := range strings.Fields(s) {
		parent, part, _ := strings.Cut(word, ">")
		l = append(l, lineFrom(parent, part))
		l[i].Quantity = i + 1
	}
	return l
}

// chainOf returns lines of which each leads on from the part of the one before.
func chainOf(names ...string) []impl.BillLine {
	var l []impl.BillLine
	for i := 1; i < len(names); i++ {
		l = append(l, lineFrom(names[i-1], names[i]))
	}
	return l
}

// shuffled returns the elements of a list in an order by chance.
func shuffled[T any](r *rand.Rand, l []T) []T {
	other := slices.Clone(l)
	r.Shuffle(len(other), func(i, j int) { other[i], other[j] = other[j], other[i] })
	return other
}

// hasCircle reports whether an item is a part of itself: whatever leads to an item and on from it leads through.
func hasCircle(lines []impl.BillLine) bool {
	leads := map[[2]string]bool{}
	names := map[string]bool{}
	for _, x := range lines {
		leads[[2]string{x.Parent, x.Part}] = true
		names[x.Parent], names[x.Part] = true, true
	}
	for middle := range names {
		for from := range names {
			for to := range names {
				if leads[[2]string{from, middle}] && leads[[2]string{middle, to}] {
					leads[[2]string{from, to}] = true
				}
			}
		}
	}
	for name := range names {
		if leads[[2]string{name, name}] {
			return true
		}
	}
	return false
}

// levelByHand returns the level of an item as the document defines it; the lines must have no circle.
func levelByHand(lines []impl.BillLine, code string) int {
	level := 0
	for _, x := range lines {
		if x.Part == code {
			level = max(level, 1+levelByHand(lines, x.Parent))
		}
	}
	return level
}

func levelsByHand(catalog []impl.Item, lines []impl.BillLine) []int {
	var l []int
	for _, x := range catalog {
		l = append(l, levelByHand(lines, x.Code))
	}
	return l
}

// bills are a catalog and lines, with the conditions of the lines as trees.
type bills struct {
	catalog []impl.Item
	lines   []impl.BillLine
	when    []condTree
}

// String tells the bills in a failing test.
func (b bills) String() string {
	var words []string
	for i, x := range b.lines {
		words = append(words, fmt.Sprintf("%s>%s*%d %d-%d %s", x.Parent, x.Part, x.Quantity, x.From, x.Until, b.when[i].text()))
	}
	return strings.Join(words, ", ")
}

// add adds a line with a condition.
func (b *bills) add(x impl.BillLine, when condTree) {
	x.When = when.list()
	b.lines = append(b.lines, x)
	b.when = append(b.when, when)
}

// alwaysBills returns bills of which all lines hold for every choice.
func alwaysBills(catalog []impl.Item, lines []impl.BillLine) bills {
	b := bills{catalog: catalog}
	for _, x := range lines {
		b.add(x, condTrue())
	}
	return b
}

// counts reports whether line i is in force.
func (b bills) counts(i int, day int, choice []impl.Pick) bool {
	x := b.lines[i]
	return day >= x.From && day <= x.Until && b.when[i].isTrue(choice)
}

// linesByHand returns the lines of a parent that are in force.
func (b bills) linesByHand(parent string, day int, choice []impl.Pick) []impl.BillLine {
	var l []impl.BillLine
	for i, x := range b.lines {
		if x.Parent == parent && b.counts(i, day, choice) {
			l = append(l, x)
		}
	}
	return l
}

// parentsByHand collects the parents of a part, and sorts them.
func (b bills) parentsByHand(part string, day int, choice []impl.Pick) []string {
	parents := map[string]bool{}
	for i, x := range b.lines {
		if x.Part == part && b.counts(i, day, choice) {
			parents[x.Parent] = true
		}
	}
	var l []string
	for code := range parents {
		l = append(l, code)
	}
	slices.Sort(l)
	return l
}

// askedDays returns the first and the last days of the lines, the days beside them, and some that are none.
func (b bills) askedDays() []int {
	days := []int{math.MinInt, -1, 0, mostDay, mostDay + 1, math.MaxInt}
	for _, x := range b.lines {
		days = append(days, x.From-1, x.From, x.From+1, x.Until-1, x.Until, x.Until+1)
	}
	slices.Sort(days)
	return slices.Compact(days)
}

// askedCodes returns all items and some codes that are none.
func (b bills) askedCodes() []string {
	codes := []string{"", "NONE", "PC", "a", "\xff"}
	for _, x := range b.catalog {
		codes = append(codes, x.Code)
	}
	return codes
}

func sameLines(a []impl.BillLine, b []impl.BillLine) bool {
	return len(a) == 0 && len(b) == 0 || reflect.DeepEqual(a, b)
}

// checkLevels checks that bills are some, and the level of each item.
func checkLevels(t *testing.T, catalog []impl.Item, lines []impl.BillLine) {
	t.Helper()
	levels := impl.LevelsOf(catalog, lines)
	if !impl.IsBills(catalog, lines) || len(levels) != len(catalog) {
		t.Errorf("%v: IsBills is %v, LevelsOf is %v", lines, impl.IsBills(catalog, lines), levels)
		return
	}
	if want := levelsByHand(catalog, lines); !slices.Equal(levels, want) {
		t.Errorf("%v: LevelsOf is %v, not %v", lines, levels, want)
	}
	for _, x := range lines {
		parent, part := impl.FindItem(catalog, x.Parent), impl.FindItem(catalog, x.Part)
		if levels[part] <= levels[parent] {
			t.Errorf("%v: %s has the level %d and its part %s the level %d", lines, x.Parent, levels[parent], x.Part, levels[part])
		}
	}
}

// checkForce checks LinesOf and ParentsOf for all items on a day and for a choice.
func (b bills) checkForce(t *testing.T, day int, choice []impl.Pick) {
	t.Helper()
	for _, code := range b.askedCodes() {
		lines := impl.LinesOf(b.catalog, b.lines, code, day, choice)
		if want := b.linesByHand(code, day, choice); !sameLines(lines, want) {
			t.Errorf("%v: LinesOf %s on %d for %q is %v, not %v", b, code, day, choice, lines, want)
		}
		parents := impl.ParentsOf(b.catalog, b.lines, code, day, choice)
		if want := b.parentsByHand(code, day, choice); !slices.Equal(parents, want) {
			t.Errorf("%v: ParentsOf %s on %d for %q is %q, not %q", b, code, day, choice, parents, want)
		}
	}
}

// check checks all functions for valid bills.
func (b bills) check(t *testing.T, choices [][]impl.Pick) {
	t.Helper()
	checkLevels(t, b.catalog, b.lines)
	for _, day := range b.askedDays() {
		for _, choice := range choices {
			b.checkForce(t, day, choice)
		}
	}
}

// checkNoBills checks that nothing is said of bills that are not valid.
func checkNoBills(t *testing.T, catalog []impl.Item, lines []impl.BillLine) {
	t.Helper()
	where := func() string { return fmt.Sprintf("%.400s, %.400s", fmt.Sprint(catalog), fmt.Sprintf("%+v", lines)) }
	if impl.IsBills(catalog, lines) {
		t.Errorf("%s: IsBills", where())
	}
	if l := impl.LevelsOf(catalog, lines); len(l) != 0 {
		t.Errorf("%s: LevelsOf is %v", where(), l)
	}
	for _, code := range []string{"A", "B", "C", ""} {
		for _, day := range []int{0, 15, mostDay, -1} {
			for _, choice := range [][]impl.Pick{nil, picksOf("LID=X")} {
				if l := impl.LinesOf(catalog, lines, code, day, choice); len(l) != 0 {
					t.Errorf("%s: LinesOf %s on %d is %v", where(), code, day, l)
				}
				if l := impl.ParentsOf(catalog, lines, code, day, choice); len(l) != 0 {
					t.Errorf("%s: ParentsOf %s on %d is %v", where(), code, day, l)
				}
			}
		}
	}
}

// TestNoLines has no lines at all, and items without any.
func TestNoLines(t *testing.T) {
	for _, catalog := range [][]impl.Item{
		nil, {}, manyItems(1), manyItems(mostItems), madeItems("A"), madeItems(allNames),
		{plainItem("A"), madeItem("B"), {Code: "C", Unit: "PC", Kind: impl.ItemPhantom}},
	} {
		for _, lines := range [][]impl.BillLine{nil, {}} {
			b := alwaysBills(catalog, lines)
			b.check(t, someChoices())
			if got := impl.LevelsOf(catalog, lines); !slices.Equal(got, make([]int, len(catalog))) {
				t.Errorf("without lines LevelsOf is %v", got)
			}
		}
	}
	b := alwaysBills(madeItems(allNames), linesFrom("B>E E>K"))
	b.check(t, someChoices())
	if got := impl.LevelsOf(b.catalog, b.lines); !slices.Equal(got, []int{0, 0, 0, 0, 1, 0, 0, 0, 0, 0, 2, 0}) {
		t.Errorf("LevelsOf is %v", got)
	}
	for _, code := range []string{"A", "C", "K", "L"} {
		if got := impl.LinesOf(b.catalog, b.lines, code, 0, nil); len(got) != 0 {
			t.Errorf("LinesOf %s is %v", code, got)
		}
	}
	for _, code := range []string{"A", "B", "C", "L"} {
		if got := impl.ParentsOf(b.catalog, b.lines, code, 0, nil); len(got) != 0 {
			t.Errorf("ParentsOf %s is %v", code, got)
		}
	}
}

// TestEmptyCatalog has lines without items.
func TestEmptyCatalog(t *testing.T) {
	if !impl.IsBills(nil, nil) || !impl.IsBills([]impl.Item{}, []impl.BillLine{}) {
		t.Error("no items and no lines are no bills")
	}
	for _, s := range []string{"A>B", "A>A", "A>B B>C"} {
		checkNoBills(t, nil, linesFrom(s))
		checkNoBills(t, []impl.Item{}, linesFrom(s))
	}
	checkNoBills(t, nil, []impl.BillLine{{}})
	checkNoBills(t, nil, make([]impl.BillLine, mostLines+1))
}

// TestBillsOfNoCatalog has lines that would do, but items that do not.
func TestBillsOfNoCatalog(t *testing.T) {
	lines := linesFrom("A>B")
	checkLevels(t, madeItems("A B C"), lines)
	for _, x := range noItems() {
		for i, code := range []string{"A", "B", "C"} {
			catalog := madeItems("A B C")
			catalog[i] = x
			if impl.IsCode(x.Code) {
				catalog[i].Code = code
			}
			checkNoBills(t, catalog, lines)
			checkNoBills(t, catalog, nil)
		}
	}
	for _, names := range []string{"B A", "A A B", "A B B", "A C B", "C A B", "A B A", allNames + " M"} {
		checkNoBills(t, madeItems(names), lines)
		checkNoBills(t, madeItems(names), nil)
	}
}

func TestNumberOfLines(t *testing.T) {
	catalog := madeItems("A B C")
	for n := range mostLines + 1 {
		b := bills{catalog: catalog}
		for i := range n {
			x := lineFrom("A", "B")
			x.Quantity = i + 1
			b.add(x, condTrue())
		}
		b.check(t, [][]impl.Pick{nil})
	}
	for _, n := range []int{mostLines + 1, mostLines + 2, 2 * mostLines, 300} {
		checkNoBills(t, catalog, slices.Repeat(linesFrom("A>B"), n))
	}
}

// changedLine is a line that is changed in some way.
type changedLine func(x *impl.BillLine)

// spoilingChanges returns changes after which a line is not valid, each for one reason.
func spoilingChanges() []changedLine {
	return []changedLine{
		func(x *impl.BillLine) { x.Quantity = 0 }, func(x *impl.BillLine) { x.Quantity = -1 }, func(x *impl.BillLine) { x.Quantity = mostPer + 1 },
		func(x *impl.BillLine) { x.From = -1 }, func(x *impl.BillLine) { x.From, x.Until = 6, 5 }, func(x *impl.BillLine) { x.Until = mostDay + 1 },
		func(x *impl.BillLine) { x.When = nil }, func(x *impl.BillLine) { x.When = condNodes(impl.CondAnd) }, func(x *impl.BillLine) { *x = impl.BillLine{} },
		func(x *impl.BillLine) { x.Parent = "" }, func(x *impl.BillLine) { x.Part = "" }, func(x *impl.BillLine) { x.Part = x.Parent },
	}
}

// linesWith returns three lines of which one is changed: the first, the middle and the last one.
func linesWith(change changedLine) [][]impl.BillLine {
	var all [][]impl.BillLine
	for i := range 3 {
		lines := []impl.BillLine{lineFrom("A", "B"), lineFrom("A", "B"), lineFrom("A", "B")}
		change(&lines[i])
		all = append(all, lines)
	}
	return all
}

// checkLine checks whether lines of which one is changed are bills.
func checkLine(t *testing.T, want bool, change changedLine) {
	t.Helper()
	catalog := []impl.Item{madeItem("A"), madeItem("B"), plainItem("C"), {Code: "D", Unit: "PC", Kind: impl.ItemPhantom}}
	for _, lines := range linesWith(change) {
		if want {
			checkLevels(t, catalog, lines)
		} else {
			checkNoBills(t, catalog, lines)
		}
	}
}

// TestItemsOfLines has lines of codes that are no items, and of items of all kinds.
func TestItemsOfLines(t *testing.T) {
	for _, code := range append(noCodes(), "E", "AA", "A-", "PC", "NONE") {
		checkLine(t, false, func(x *impl.BillLine) { x.Parent = code })
		checkLine(t, false, func(x *impl.BillLine) { x.Part = code })
		checkLine(t, false, func(x *impl.BillLine) { x.Parent, x.Part = code, code })
	}
	for _, s := range []string{"A>C", "A>D", "B>C", "B>D", "D>B", "D>C"} {
		parent, part, _ := strings.Cut(s, ">")
		checkLine(t, true, func(x *impl.BillLine) { x.Parent, x.Part = parent, part })
	}
	// a bought item has no parts
	for _, s := range []string{"C>A", "C>B", "C>C", "C>D"} {
		parent, part, _ := strings.Cut(s, ">")
		checkLine(t, false, func(x *impl.BillLine) { x.Parent, x.Part = parent, part })
	}
}

func TestQuantitiesOfLines(t *testing.T) {
	for n := -3; n <= mostPer+3; n++ {
		checkLine(t, n >= 1 && n <= 1000, func(x *impl.BillLine) { x.Quantity = n })
	}
	for _, n := range farNumbers() {
		checkLine(t, false, func(x *impl.BillLine) { x.Quantity = n })
	}
}

func TestDaysOfLines(t *testing.T) {
	for _, from := range endDays() {
		for _, until := range endDays() {
			checkLine(t, from >= 0 && from <= until && until <= 999, func(x *impl.BillLine) { x.From, x.Until = from, until })
		}
	}
}

// TestWhenOfLines has conditions, and lists that are none.
func TestWhenOfLines(t *testing.T) {
	for _, c := range someTrees() {
		checkLine(t, true, func(x *impl.BillLine) { x.When = c.list() })
	}
	const is, not, and = impl.CondIs, impl.CondNot, impl.CondAnd
	none := [][]impl.CondNode{
		nil, {}, condNodes(not), condNodes(and), condNodes(is, is), condNodes(is, and), condNodes(not, is), condNodes(is, is, and, not, is),
		notTimes(mostCond, condTrue()).list(), notTimes(mostCond, condIs("LID", "X")).list(), slices.Repeat(condNodes(is), 1000),
	}
	for _, n := range unfitNodes() {
		none = append(none, []impl.CondNode{n})
	}
	for _, l := range none {
		checkLine(t, false, func(x *impl.BillLine) { x.When = l })
	}
}

// TestSmallBills goes through all lines between four items: each of them is there or not.
func TestSmallBills(t *testing.T) {
	names := []string{"A", "B", "C", "D"}
	catalog := madeItems("A B C D")
	valid := 0
	for set := range 1 << 16 {
		var lines []impl.BillLine
		for i := range 16 {
			if set>>i&1 == 1 {
				lines = append(lines, lineFrom(names[i/4], names[i%4]))
			}
		}
		if hasCircle(lines) {
			if impl.IsBills(catalog, lines) || len(impl.LevelsOf(catalog, lines)) != 0 {
				t.Errorf("%v: a circle", lines)
			}
			continue
		}
		valid++
		checkLevels(t, catalog, lines)
		slices.Reverse(lines)
		checkLevels(t, catalog, lines)
	}
	// This is how many graphs of four items have no circle.
	if valid != 543 {
		t.Errorf("%d bills", valid)
	}
}

// TestCircles has circles of all lengths, beginning anywhere, beside lines that have none.
func TestCircles(t *testing.T) {
	r := rand.New(rand.NewSource(9))
	catalog := madeItems(allNames)
	for range 40 {
		names := strings.Fields(allNames)
		r.Shuffle(len(names), func(i, j int) { names[i], names[j] = names[j], names[i] })
		chain := chainOf(names...)
		for from := range names {
			for to := range from + 1 {
				lines := shuffled(r, append(slices.Clone(chain), lineFrom(names[from], names[to])))
				checkNoBills(t, catalog, lines)
				circle := append(chainOf(names[to:from+1]...), lineFrom(names[from], names[to]))
				checkNoBills(t, catalog, shuffled(r, circle))
				checkLevels(t, catalog, shuffled(r, circle[1:]))
			}
		}
	}
}

// TestCirclesCases has circles of one line and of two ones, two circles, and lines that only seem to be one.
func TestCirclesCases(t *testing.T) {
	catalog := madeItems("A B C D E F")
	for _, s := range []string{
		"A>A", "F>F", "C>C", "A>B B>B", "A>B A>A", "A>A A>A", "A>B C>C",
		"A>B B>A", "B>A A>B", "F>E E>F", "A>B B>C C>B", "B>A A>B B>C", "A>B A>B B>A",
		"A>B B>C C>A", "C>A B>C A>B", "D>A A>B B>C C>A C>E", "A>B B>C C>D D>E E>F F>A", "A>B B>C C>D D>E E>F F>B", "A>B B>C C>D D>E E>F F>E",
		"A>B B>A C>D D>C", "A>B B>C C>A D>E E>F F>D", "A>B A>C B>D C>D D>E E>C",
	} {
		checkNoBills(t, catalog, linesFrom(s))
	}
	checkNoBills(t, madeItems("A"), linesFrom("A>A"))
	for _, s := range []string{
		"A>B A>C", "A>C B>C", "A>B B>C A>C", "A>B A>B A>B", "A>B A>C B>D C>D", "B>A C>A C>B", "A>B B>C D>E E>F", "F>A F>B F>C A>D B>D C>D D>E", "A>B C>B C>D E>D E>F A>F",
	} {
		alwaysBills(catalog, linesFrom(s)).check(t, [][]impl.Pick{nil})
	}
}

// TestCirclesNeverInForce has circles of lines that are never in force together, or not at all.
func TestCirclesNeverInForce(t *testing.T) {
	catalog := madeItems("A B C")
	early, late := lineFrom("A", "B"), lineFrom("B", "A")
	early.Until, late.From = 10, 11
	checkNoBills(t, catalog, []impl.BillLine{early, late})
	checkNoBills(t, catalog, []impl.BillLine{late, early})
	early.From, early.Until, late.From, late.Until = 0, 0, mostDay, mostDay
	checkNoBills(t, catalog, []impl.BillLine{early, late})

	with, without := lineFrom("A", "B"), lineFrom("B", "A")
	with.When, without.When = condIs("LID", "X").list(), condNot(condIs("LID", "X")).list()
	checkNoBills(t, catalog, []impl.BillLine{with, without})

	never, self := lineFrom("B", "A"), lineFrom("A", "A")
	never.When, self.When = condNot(condTrue()).list(), condNot(condTrue()).list()
	checkNoBills(t, catalog, []impl.BillLine{lineFrom("A", "B"), never})
	checkNoBills(t, catalog, []impl.BillLine{self})

	days := linesFrom("A>B B>C C>A")
	for i := range days {
		days[i].From, days[i].Until = 10*i, 10*i+9
	}
	checkNoBills(t, catalog, days)
	checkLevels(t, catalog, days[:2])
	checkLevels(t, catalog, days[1:])
}

// TestLongestWays has ways over all items that a catalog may have.
func TestLongestWays(t *testing.T) {
	r := rand.New(rand.NewSource(90))
	catalog := madeItems(allNames)
	catalog[11].Kind = impl.ItemBought
	names := strings.Fields(allNames)
	chain := chainOf(names...)
	down := []int{0, 1, 2, 3, 4, 5, 6, 7, 8, 9, 10, 11}
	for range 100 {
		if got := impl.LevelsOf(catalog, shuffled(r, chain)); !slices.Equal(got, down) {
			t.Errorf("LevelsOf is %v", got)
		}
	}
	slices.Reverse(names)
	catalog = madeItems(allNames)
	slices.Reverse(down)
	full := chainOf(names...)
	// the shortest ways to the items beside the longest ones
	for _, code := range names[1:] {
		full = append(full, lineFrom("L", code))
	}
	full = append(full, lineFrom("K", "A"), lineFrom("B", "A"))
	for range 100 {
		lines := shuffled(r, full)
		if got := impl.LevelsOf(catalog, lines); !slices.Equal(got, down) {
			t.Errorf("LevelsOf is %v", got)
		}
		alwaysBills(catalog, lines).checkForce(t, 500, nil)
	}
	if len(full) != mostLines {
		t.Errorf("%d lines", len(full))
	}
}

// TestLevelsCases has ways of different lengths to one item, and lines that are not in force.
func TestLevelsCases(t *testing.T) {
	for s, want := range map[string][]int{
		"A>B A>C B>C":                 {0, 1, 2, 0, 0, 0},
		"A>F A>B B>F B>C C>F":         {0, 1, 2, 0, 0, 3},
		"A>D B>C C>D":                 {0, 0, 1, 2, 0, 0},
		"F>E E>D D>C C>B B>A F>A":     {5, 4, 3, 2, 1, 0},
		"A>B A>B A>B B>C B>C":         {0, 1, 2, 0, 0, 0},
		"A>C B>C D>E E>C C>F A>F":     {0, 0, 2, 0, 1, 3},
		"C>A C>B A>B":                 {1, 2, 0, 0, 0, 0},
		"B>F F>D A>D D>C E>C":         {0, 0, 3, 2, 0, 1},
		"A>E A>F":                     {0, 0, 0, 0, 1, 1},
		"A>B B>C C>D D>E E>F A>F B>F": {0, 1, 2, 3, 4, 5},
	} {
		catalog := madeItems("A B C D E F")
		lines := linesFrom(s)
		if got := impl.LevelsOf(catalog, lines); !slices.Equal(got, want) {
			t.Errorf("LevelsOf of %s is %v, not %v", s, got, want)
		}
		for i := range lines {
			lines[i].From, lines[i].Until, lines[i].When = i, i, condNot(condTrue()).list()
		}
		if got := impl.LevelsOf(catalog, lines); !slices.Equal(got, want) {
			t.Errorf("LevelsOf of %s, never in force, is %v, not %v", s, got, want)
		}
	}
}

// TestDaysInForce has lines with one bound, both and none.
func TestDaysInForce(t *testing.T) {
	for _, d := range [][2]int{{0, 0}, {0, 1}, {0, mostDay}, {1, 1}, {10, 20}, {499, 500}, {998, mostDay}, {mostDay, mostDay}} {
		x := lineFrom("A", "B")
		x.From, x.Until = d[0], d[1]
		catalog, lines := madeItems("A B"), []impl.BillLine{x}
		for day := -3; day <= mostDay+3; day++ {
			want := 0
			if day >= d[0] && day <= d[1] {
				want = 1
			}
			if got := impl.LinesOf(catalog, lines, "A", day, nil); len(got) != want {
				t.Errorf("on %d of %v LinesOf is %v", day, d, got)
			}
			if got := impl.ParentsOf(catalog, lines, "B", day, nil); len(got) != want {
				t.Errorf("on %d of %v ParentsOf is %q", day, d, got)
			}
		}
		for _, day := range noDays() {
			if l, p := impl.LinesOf(catalog, lines, "A", day, nil), impl.ParentsOf(catalog, lines, "B", day, nil); len(l)+len(p) != 0 {
				t.Errorf("on %d of %v there are %v and %q", day, d, l, p)
			}
		}
	}
}

// TestChoicesInForce has all small conditions, for choices of which some are no picks of any model.
func TestChoicesInForce(t *testing.T) {
	trees := treesOf(3, []condTree{condTrue(), condIs("A", "X"), condIs("B", "Y")})
	for _, c := range append(slices.Concat(trees...), treesOfSize(mostCond)...) {
		b := bills{catalog: madeItems("A B C")}
		b.add(lineFrom("A", "B"), c)
		b.add(lineFrom("B", "C"), condNot(condIs("A", "X")))
		b.add(lineFrom("A", "C"), condTrue())
		for _, choice := range someChoices() {
			b.checkForce(t, 7, choice)
		}
	}
}

// billsOfChance returns valid bills by chance.
func billsOfChance(r *rand.Rand, items int, lines int) bills {
	names := strings.Fields(allNames)[:items]
	b := bills{catalog: madeItems(strings.Join(names, " "))}
	r.Shuffle(items, func(i, j int) { names[i], names[j] = names[j], names[i] })
	for i, x := range b.catalog {
		switch {
		case x.Code == names[items-1]:
			// Only the last one is certain to be no parent.
			b.catalog[i] = plainItem(x.Code)
		case r.Intn(2) == 0:
			b.catalog[i] = impl.Item{Code: x.Code, Unit: "KG", Kind: impl.ItemPhantom}
		}
	}
	for range lines {
		b.add(lineOfChance(r, names), ruleOfChance(r, aAndB(), 1+r.Intn(6)))
	}
	return b
}

// lineOfChance returns a line from a name to a later one, in force on a few days or until the last one.
func lineOfChance(r *rand.Rand, names []string) impl.BillLine {
	part := 1 + r.Intn(len(names)-1)
	x := lineFrom(names[r.Intn(part)], names[part])
	x.Quantity = 1 + r.Intn(mostPer)
	x.From = r.Intn(5)
	if r.Intn(4) > 0 {
		x.Until = x.From + r.Intn(4)
	}
	return x
}

func TestBillsOfChance(t *testing.T) {
	r := rand.New(rand.NewSource(99))
	for range 120 {
		b := billsOfChance(r, 2+r.Intn(mostItems-1), r.Intn(mostLines+1))
		choices := someChoices()
		r.Shuffle(len(choices), func(i, j int) { choices[i], choices[j] = choices[j], choices[i] })
		b.check(t, choices[:4])
	}
}

// TestLinesOfChance has lines between any items, of which many have a circle.
func TestLinesOfChance(t *testing.T) {
	r := rand.New(rand.NewSource(999))
	names := strings.Fields(allNames)
	circles := 0
	for range 4000 {
		var lines []impl.BillLine
		for range r.Intn(mostLines/2 + 1) {
			lines = append(lines, lineFrom(names[r.Intn(mostItems)], names[r.Intn(mostItems)]))
		}
		if !hasCircle(lines) {
			checkLevels(t, madeItems(allNames), lines)
			continue
		}
		circles++
		if impl.IsBills(madeItems(allNames), lines) || len(impl.LevelsOf(madeItems(allNames), lines)) != 0 {
			t.Errorf("%v: a circle", lines)
		}
	}
	if circles < 500 || circles > 3500 {
		t.Errorf("%d circles", circles)
	}
}

// TestOrderOfLines has the lines of two parents in turn: each one's are in order.
func TestOrderOfLines(t *testing.T) {
	catalog := madeItems("A B C D")
	lines := linesFrom("B>D A>D A>C B>D A>B A>D B>C A>C A>D")
	for parent, want := range map[string][]int{"A": {2, 3, 5, 6, 8, 9}, "B": {1, 4, 7}, "C": nil, "D": nil} {
		var quantities []int
		for _, x := range impl.LinesOf(catalog, lines, parent, 3, nil) {
			quantities = append(quantities, x.Quantity)
			if !reflect.DeepEqual(x, lines[x.Quantity-1]) {
				t.Errorf("the line %v became %v", lines[x.Quantity-1], x)
			}
		}
		if !slices.Equal(quantities, want) {
			t.Errorf("LinesOf %s are %v, not %v", parent, quantities, want)
		}
	}
}

// TestOrderOfParents has the parents in no order, and some of them several times.
func TestOrderOfParents(t *testing.T) {
	catalog := madeItems("A B C D E")
	lines := linesFrom("D>E B>E D>E A>E B>E A>B A>D C>B D>C B>E")
	lines = lines[:len(lines)-2]
	for part, want := range map[string]string{"A": "", "B": "A C", "C": "", "D": "A", "E": "A B D"} {
		if got := impl.ParentsOf(catalog, lines, part, 3, nil); strings.Join(got, " ") != want {
			t.Errorf("ParentsOf %s are %q, not %q", part, got, want)
		}
	}
	for i := range lines {
		if lines[i].Parent == "B" {
			lines[i].When = condIs("LID", "X").list()
		}
	}
	for s, want := range map[string]string{"LID=X": "A B D", "LID=Y LID=X": "A B D", "LID=Y": "A D", "": "A D"} {
		if got := impl.ParentsOf(catalog, lines, "E", 3, picksOf(s)); strings.Join(got, " ") != want {
			t.Errorf("ParentsOf E for %q are %q, not %q", s, got, want)
		}
	}
}

// TestLinesThereTwice has the same line several times: each one counts.
func TestLinesThereTwice(t *testing.T) {
	b := alwaysBills(madeItems("A B C"), append(slices.Repeat([]impl.BillLine{lineFrom("A", "B")}, 5), lineFrom("B", "C"), lineFrom("B", "C")))
	b.check(t, [][]impl.Pick{nil})
	if got := impl.LinesOf(b.catalog, b.lines, "A", 0, nil); len(got) != 5 {
		t.Errorf("LinesOf is %v", got)
	}
	if got := impl.ParentsOf(b.catalog, b.lines, "B", 0, nil); !slices.Equal(got, []string{"A"}) {
		t.Errorf("ParentsOf is %q", got)
	}
}

// spareBills returns bills with something in the unused capacity of all their slices.
func spareBills() bills {
	b := bills{catalog: append(madeItems("A B C D"), plainItem("SPARE"))[:4]}
	for _, x := range linesFrom("A>B A>C B>C A>D C>D A>D") {
		b.add(x, condNot(condIs("LID", "Y")))
	}
	b.lines = append(b.lines, lineFrom("SPARE", "SPARE"))[:len(b.lines)]
	for i := range b.lines {
		b.lines[i].When, _ = spareNodes(b.lines[i].When)
	}
	return b
}

// textOfAll returns the text of bills and picks with all of their capacity.
func (b bills) textOfAll(picks []impl.Pick) string {
	text := fmt.Sprint(b.catalog[:cap(b.catalog)], picks[:cap(picks)])
	for _, x := range b.lines[:cap(b.lines)] {
		text += fmt.Sprintf("%v %v;", x, x.When[:cap(x.When)])
	}
	return text
}

// overwrite changes lines that were returned, with all of their capacity.
func overwrite(lines []impl.BillLine) {
	for _, x := range lines {
		nodes := x.When[:cap(x.When)]
		for i := range nodes {
			nodes[i] = impl.CondNode{Kind: 7, Option: "CHANGED"}
		}
	}
	lines = lines[:cap(lines)]
	for i := range lines {
		lines[i] = impl.BillLine{Parent: "CHANGED"}
	}
}

// useBills calls all functions of the chapter, returns what they return as a text, and overwrites it.
func (b bills) useBills(code string, day int, picks []impl.Pick) string {
	levels := impl.LevelsOf(b.catalog, b.lines)
	lines := impl.LinesOf(b.catalog, b.lines, code, day, picks)
	parents := impl.ParentsOf(b.catalog, b.lines, code, day, picks)
	text := fmt.Sprint(impl.IsBills(b.catalog, b.lines), levels, lines, parents)
	overwrite(lines)
	for i := range levels {
		levels[i] = -7
	}
	for i := range parents {
		parents[i] = "CHANGED"
	}
	return text
}

func TestBillsStayAsTheyAre(t *testing.T) {
	b := spareBills()
	picks := picksOf("LID=X COLOR=RED LID=Y")
	before := b.textOfAll(picks)
	for _, code := range []string{"A", "B", "C", "D", "SPARE", ""} {
		for _, day := range []int{-1, 0, 500, mostDay, mostDay + 1} {
			first := b.useBills(code, day, picks[:2])
			second := b.useBills(code, day, picks[:2])
			if first != second {
				t.Errorf("first %s, then %s", first, second)
			}
			if after := b.textOfAll(picks); after != before {
				t.Fatalf("%s became %s", before, after)
			}
		}
	}
	// bills that are not valid stay too
	b.lines = b.lines[:cap(b.lines)]
	if b.lines[6].Parent != "SPARE" || !strings.HasPrefix(b.useBills("A", 0, picks), "false") {
		t.Error("the spare line is not there")
	}
	if after := b.textOfAll(picks); after != before {
		t.Errorf("%s became %s", before, after)
	}
}

// TestLinesShareNoMemory gives all lines one condition: those that are returned have one each.
func TestLinesShareNoMemory(t *testing.T) {
	c := condAnd(condIs("LID", "X"), condTrue())
	shared, _ := spareNodes(c.list())
	lines, want := linesFrom("A>B A>C A>B A>C B>C"), linesFrom("A>B A>C A>B A>C")
	for i := range lines {
		lines[i].When = shared
	}
	for i := range want {
		want[i].When = c.list()
	}
	got := impl.LinesOf(madeItems("A B C"), lines, "A", 0, picksOf("LID=X"))
	if len(got) != len(want) {
		t.Fatalf("LinesOf is %v", got)
	}
	for i := range got {
		if !reflect.DeepEqual(got[i:], want[i:]) {
			t.Errorf("from %d on: %v, not %v", i, got[i:], want[i:])
		}
		overwrite(got[i : i+1 : i+1])
	}
	if !slices.Equal(shared, c.list()) {
		t.Errorf("the condition became %v", shared)
	}
}
