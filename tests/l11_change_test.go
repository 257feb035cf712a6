package tests

import (
	"fmt"
	"math"
	"math/rand"
	"reflect"
	"slices"
	"strconv"
	"strings"
	"testing"

	"loop.example/g03407/impl"
)

// mostChanges is the largest number of changes that the document allows.
const mostChanges = 8

func TestConstantsOfChanges(t *testing.T) {
	if impl.MaxChanges != mostChanges {
		t.Errorf("MaxChanges = %d", impl.MaxChanges)
	}
}

// numberIn returns the number that a word of a test is.
func numberIn(word string) int {
	n, err := strconv.Atoi(word)
	if err != nil {
		panic("no number: " + word)
	}
	return n
}

// partIn returns the item and the quantity of a word such as B*2.
func partIn(word string) (string, int) {
	part, quantity, _ := strings.Cut(word, "*")
	return part, numberIn(quantity)
}

// datedLine returns the line of a text such as A>B*2 0-99 LID=X; without a condition it holds always.
func datedLine(s string) impl.BillLine {
	words := strings.SplitN(s, " ", 3)
	parent, part, _ := strings.Cut(words[0], ">")
	from, until, _ := strings.Cut(words[1], "-")
	x := impl.BillLine{Parent: parent, From: numberIn(from), Until: numberIn(until), When: condTrue().list()}
	x.Part, x.Quantity = partIn(part)
	if len(words) == 3 {
		x.When, _ = impl.ParseCond(words[2])
	}
	return x
}

// datedLines returns the lines of a text with commas between them.
func datedLines(s string) []impl.BillLine {
	if s == "" {
		return nil
	}
	var l []impl.BillLine
	for _, word := range strings.Split(s, ", ") {
		l = append(l, datedLine(word))
	}
	return l
}

// textOfLines is the way back.
func textOfLines(lines []impl.BillLine) string {
	var words []string
	for _, x := range lines {
		s := fmt.Sprintf("%s>%s*%d %d-%d", x.Parent, x.Part, x.Quantity, x.From, x.Until)
		if when := impl.FormatCond(x.When); when != "TRUE" {
			s += " " + when
		}
		words = append(words, s)
	}
	return strings.Join(words, ", ")
}

// changeFrom returns the change of a text such as 15 A>D C*2, or 15 A>D if the part is taken away.
func changeFrom(s string) impl.Change {
	words := strings.Fields(s)
	parent, out, _ := strings.Cut(words[1], ">")
	x := impl.Change{Day: numberIn(words[0]), Parent: parent, Out: out}
	if len(words) == 3 {
		x.In, x.Quantity = partIn(words[2])
	}
	return x
}

// changesFrom returns the changes of a text with commas between them.
func changesFrom(s string) []impl.Change {
	if s == "" {
		return nil
	}
	var l []impl.Change
	for _, word := range strings.Split(s, ", ") {
		l = append(l, changeFrom(word))
	}
	return l
}

// changedByHand goes through the days of each line, and puts those before the change and those from its day on in lines of their own.
func changedByHand(lines []impl.BillLine, x impl.Change) []impl.BillLine {
	var l []impl.BillLine
	for _, line := range lines {
		if line.Parent != x.Parent || line.Part != x.Out {
			l = append(l, line)
			continue
		}
		var before, after []int
		for day := line.From; day <= line.Until; day++ {
			if day < x.Day {
				before = append(before, day)
			} else {
				after = append(after, day)
			}
		}
		if len(before) > 0 {
			l = append(l, lineOnDays(line, before))
		}
		if len(after) > 0 && x.In != "" {
			line.Part = x.In
			if x.Quantity != 0 {
				line.Quantity = x.Quantity
			}
			l = append(l, lineOnDays(line, after))
		}
	}
	return l
}

// lineOnDays returns a line that is in force on the days of a list only, which has no gaps.
func lineOnDays(x impl.BillLine, days []int) impl.BillLine {
	x.From, x.Until = days[0], days[len(days)-1]
	return x
}

// tidiedByHand cuts the lines wherever one does not go on from the one before, and makes one line of each piece.
func tidiedByHand(lines []impl.BillLine) []impl.BillLine {
	var l []impl.BillLine
	for i, x := range lines {
		if i > 0 && isContinued(lines[i-1], x) {
			l[len(l)-1].Until = x.Until
		} else {
			l = append(l, x)
		}
	}
	return l
}

// isContinued reports whether a line says the same as the one before it, from the day after that on.
func isContinued(before impl.BillLine, x impl.BillLine) bool {
	isNext := before.Until+1 == x.From
	before.From, before.Until = x.From, x.Until
	return isNext && reflect.DeepEqual(before, x)
}

// onByHand returns the lines of a day.
func onByHand(lines []impl.BillLine, day int) []impl.BillLine {
	var l []impl.BillLine
	for _, x := range lines {
		if x.From <= day && x.Until >= day {
			l = append(l, lineOnDays(x, []int{day}))
		}
	}
	return l
}

// checkApplied checks what ApplyChange and ApplyChanges make of valid lines by a valid change.
func checkApplied(t *testing.T, catalog []impl.Item, lines []impl.BillLine, x impl.Change) {
	t.Helper()
	want := changedByHand(lines, x)
	wantOk := impl.IsBills(catalog, want)
	if !wantOk {
		want = nil
	}
	got, ok := impl.ApplyChange(catalog, lines, x)
	if ok != wantOk || !sameLines(got, want) {
		t.Errorf("%s: ApplyChange %+v is %s, %v, not %s, %v", textOfLines(lines), x, textOfLines(got), ok, textOfLines(want), wantOk)
	}
	got, ok = impl.ApplyChanges(catalog, lines, []impl.Change{x})
	if ok != wantOk || !sameLines(got, want) {
		t.Errorf("%s: ApplyChanges %+v is %s, %v, not %s, %v", textOfLines(lines), x, textOfLines(got), ok, textOfLines(want), wantOk)
	}
}

// checkChange checks the lines after a change, as texts; it must succeed.
func checkChange(t *testing.T, catalog []impl.Item, lines string, change string, want string) {
	t.Helper()
	got, ok := impl.ApplyChange(catalog, datedLines(lines), changeFrom(change))
	if !ok || textOfLines(got) != want {
		t.Errorf("%s: ApplyChange %s is %s, %v, not %s", lines, change, textOfLines(got), ok, want)
	}
	checkApplied(t, catalog, datedLines(lines), changeFrom(change))
}

// checkNoChange checks that a change fails, alone and among others.
func checkNoChange(t *testing.T, catalog []impl.Item, lines []impl.BillLine, x impl.Change) {
	t.Helper()
	if l, ok := impl.ApplyChange(catalog, lines, x); ok || len(l) != 0 {
		t.Errorf("%.300s: ApplyChange %+v is %v, %v", textOfLines(lines), x, l, ok)
	}
	idle := impl.Change{Day: mostDay, Parent: "A", Out: "A"}
	for _, l := range [][]impl.Change{{x}, {idle, x}, {x, idle}, {x, x}} {
		if lines, ok := impl.ApplyChanges(catalog, lines, l); ok || len(lines) != 0 {
			t.Errorf("ApplyChanges %+v is %v, %v", l, lines, ok)
		}
	}
}

// checkNothingChanged checks that nothing is said of bills that are not valid.
func checkNothingChanged(t *testing.T, catalog []impl.Item, lines []impl.BillLine) {
	t.Helper()
	for _, s := range []string{"0 A>B C*2", "0 A>B", "5 A>C B*0", "999 B>C C*1"} {
		checkNoChange(t, catalog, lines, changeFrom(s))
	}
	for _, l := range [][]impl.Change{nil, {}, changesFrom("5 A>C"), make([]impl.Change, mostChanges), make([]impl.Change, mostChanges+1)} {
		if got, ok := impl.ApplyChanges(catalog, lines, l); ok || len(got) != 0 {
			t.Errorf("%.300s: ApplyChanges %v is %v, %v", textOfLines(lines), l, got, ok)
		}
	}
	for _, day := range []int{-1, 0, 5, mostDay, mostDay + 1} {
		if got := impl.BillsOn(catalog, lines, day); len(got) != 0 {
			t.Errorf("%.300s: BillsOn %d is %v", textOfLines(lines), day, got)
		}
	}
	if got := impl.TidyLines(catalog, lines); len(got) != 0 {
		t.Errorf("%.300s: TidyLines is %v", textOfLines(lines), got)
	}
}

// kinds returns a catalog with items of all kinds.
func kinds() []impl.Item { return itemsFrom("A (B) C [D] E") }

// changeWith returns a valid change but for what is done to it.
func changeWith(spoil func(x *impl.Change)) impl.Change {
	x := impl.Change{Day: 5, Parent: "A", Out: "C", In: "D", Quantity: 2}
	spoil(&x)
	return x
}

// checkIsChange checks whether a change is one.
func checkIsChange(t *testing.T, want bool, spoil func(x *impl.Change)) {
	t.Helper()
	x := changeWith(spoil)
	if got := impl.IsChange(kinds(), x); got != want {
		t.Errorf("IsChange %+v is %v", x, got)
	}
	lines := datedLines("A>C*1 0-9, E>D*7 0-9, B>C*3 4-6")
	if want {
		checkApplied(t, kinds(), lines, x)
	} else {
		checkNoChange(t, kinds(), lines, x)
		checkNoChange(t, kinds(), nil, x)
	}
}

func TestDaysOfChanges(t *testing.T) {
	for _, day := range endDays() {
		checkIsChange(t, day >= 0 && day <= 999, func(x *impl.Change) { x.Day = day })
		checkIsChange(t, day >= 0 && day <= 999, func(x *impl.Change) { x.Day, x.In, x.Quantity = day, "", 0 })
	}
}

// TestItemsOfChanges has codes that are no items, and items of all kinds; a parent may also be bought, as then no line is met.
func TestItemsOfChanges(t *testing.T) {
	for _, code := range []string{"A", "B", "C", "D", "E"} {
		checkIsChange(t, true, func(x *impl.Change) { x.Parent = code })
		checkIsChange(t, true, func(x *impl.Change) { x.Out = code })
		checkIsChange(t, true, func(x *impl.Change) { x.In = code })
		checkIsChange(t, true, func(x *impl.Change) { x.Parent, x.Out, x.In = code, code, code })
	}
	for _, code := range append(noCodes(), "F", "AA", "A-", "PC", "KG", "NONE") {
		checkIsChange(t, false, func(x *impl.Change) { x.Parent = code })
		checkIsChange(t, false, func(x *impl.Change) { x.Out = code })
		// also the empty one, as there is a quantity
		checkIsChange(t, false, func(x *impl.Change) { x.In = code })
		checkIsChange(t, code == "", func(x *impl.Change) { x.In, x.Quantity = code, 0 })
		checkIsChange(t, false, func(x *impl.Change) { x.Parent, x.Out, x.In = code, code, code })
	}
}

func TestQuantitiesOfChanges(t *testing.T) {
	for n := -3; n <= mostPer+3; n++ {
		checkIsChange(t, n >= 0 && n <= 1000, func(x *impl.Change) { x.Quantity = n })
		checkIsChange(t, n == 0, func(x *impl.Change) { x.In, x.Quantity = "", n })
	}
	for _, n := range farNumbers() {
		checkIsChange(t, false, func(x *impl.Change) { x.Quantity = n })
		checkIsChange(t, false, func(x *impl.Change) { x.In, x.Quantity = "", n })
	}
}

// TestChangesOfNoCatalog has changes that would do, but items that do not.
func TestChangesOfNoCatalog(t *testing.T) {
	x := impl.Change{Parent: "A", Out: "B"}
	if !impl.IsChange(madeItems("A B C"), x) || !impl.IsChange(madeItems(allNames), x) {
		t.Error("IsChange is false")
	}
	var catalogs [][]impl.Item
	for _, item := range noItems() {
		catalog := madeItems("A B C D")
		catalog[3] = item
		if impl.IsCode(item.Code) {
			catalog[3].Code = "D"
		}
		catalogs = append(catalogs, catalog)
	}
	for _, names := range []string{"", "B A C", "A A B C", "A B B C", "A B C C", "A C B", allNames + " M"} {
		catalogs = append(catalogs, madeItems(names))
	}
	for _, catalog := range catalogs {
		if impl.IsChange(catalog, x) || impl.IsChange(catalog, impl.Change{}) {
			t.Errorf("%v: IsChange", catalog)
		}
		checkNoChange(t, catalog, nil, x)
		checkNothingChanged(t, catalog, linesFrom("A>B B>C"))
	}
	if impl.IsChange(nil, impl.Change{}) || impl.IsChange([]impl.Item{}, x) {
		t.Error("IsChange without items")
	}
}

// TestChangesOfNoBills has lines that are not valid, each for one reason, also far from what is changed.
func TestChangesOfNoBills(t *testing.T) {
	for _, s := range []string{"A>A", "E>E", "A>B B>A", "A>B C>E E>C", "A>B B>E E>A", "D>C", "A>D D>E", "A>F", "F>A", "F>G", ">A", "A>", "a>B"} {
		checkNothingChanged(t, kinds(), linesFrom(s))
	}
	checkNothingChanged(t, kinds(), slices.Repeat(linesFrom("A>B"), mostLines+1))
	checkNothingChanged(t, kinds(), slices.Repeat(linesFrom("E>C"), 300))
	for _, change := range spoilingChanges() {
		for _, lines := range linesWith(change) {
			checkNothingChanged(t, kinds(), lines)
		}
	}
	// what is wrong would be taken away by the change
	checkNoChange(t, kinds(), linesFrom("A>B B>A"), changeFrom("0 B>A"))
	checkNoChange(t, kinds(), linesFrom("A>A"), changeFrom("0 A>A"))
	checkNoChange(t, kinds(), slices.Repeat(linesFrom("A>B"), mostLines+1), changeFrom("0 A>B"))
}

// TestChangesOfNothing has no lines, and no items.
func TestChangesOfNothing(t *testing.T) {
	for _, lines := range [][]impl.BillLine{nil, {}} {
		checkApplied(t, kinds(), lines, changeFrom("0 A>B C*1"))
		checkApplied(t, kinds(), lines, changeFrom("0 A>B"))
		for _, catalog := range [][]impl.Item{nil, {}, kinds(), madeItems(allNames)} {
			for _, l := range [][]impl.Change{nil, {}} {
				if got, ok := impl.ApplyChanges(catalog, lines, l); !ok || len(got) != 0 {
					t.Errorf("ApplyChanges is %v, %v", got, ok)
				}
			}
			if got := impl.BillsOn(catalog, lines, 0); len(got) != 0 {
				t.Errorf("BillsOn is %v", got)
			}
			if got := impl.TidyLines(catalog, lines); len(got) != 0 {
				t.Errorf("TidyLines is %v", got)
			}
		}
	}
}

// TestFirstAndLastDays changes a line on its first day and on its last one, and on the days before them and after.
func TestFirstAndLastDays(t *testing.T) {
	for change, want := range map[string]string{
		"0 A>D C*3":   "A>C*3 10-20 LID=X",
		"9 A>D C*3":   "A>C*3 10-20 LID=X",
		"10 A>D C*3":  "A>C*3 10-20 LID=X",
		"11 A>D C*3":  "A>D*2 10-10 LID=X, A>C*3 11-20 LID=X",
		"12 A>D C*3":  "A>D*2 10-11 LID=X, A>C*3 12-20 LID=X",
		"19 A>D C*3":  "A>D*2 10-18 LID=X, A>C*3 19-20 LID=X",
		"20 A>D C*3":  "A>D*2 10-19 LID=X, A>C*3 20-20 LID=X",
		"21 A>D C*3":  "A>D*2 10-20 LID=X",
		"22 A>D C*3":  "A>D*2 10-20 LID=X",
		"999 A>D C*3": "A>D*2 10-20 LID=X",
		"0 A>D":       "",
		"9 A>D":       "",
		"10 A>D":      "",
		"11 A>D":      "A>D*2 10-10 LID=X",
		"19 A>D":      "A>D*2 10-18 LID=X",
		"20 A>D":      "A>D*2 10-19 LID=X",
		"21 A>D":      "A>D*2 10-20 LID=X",
		"999 A>D":     "A>D*2 10-20 LID=X",
		"9 A>D C*0":   "A>C*2 10-20 LID=X",
		"10 A>D C*0":  "A>C*2 10-20 LID=X",
		"11 A>D C*0":  "A>D*2 10-10 LID=X, A>C*2 11-20 LID=X",
		"20 A>D C*0":  "A>D*2 10-19 LID=X, A>C*2 20-20 LID=X",
		"21 A>D C*0":  "A>D*2 10-20 LID=X",
		"9 A>D D*7":   "A>D*7 10-20 LID=X",
		"10 A>D D*7":  "A>D*7 10-20 LID=X",
		"11 A>D D*7":  "A>D*2 10-10 LID=X, A>D*7 11-20 LID=X",
		"21 A>D D*7":  "A>D*2 10-20 LID=X",
		"10 A>D D*0":  "A>D*2 10-20 LID=X",
		"11 A>D D*0":  "A>D*2 10-10 LID=X, A>D*2 11-20 LID=X",
		"20 A>D D*2":  "A>D*2 10-19 LID=X, A>D*2 20-20 LID=X",
		"21 A>D D*2":  "A>D*2 10-20 LID=X",
	} {
		checkChange(t, kinds(), "A>D*2 10-20 LID=X", change, want)
	}
}

// TestDaysOfLinesChanged changes lines of many days on each day of them, up to the ends of all days.
func TestDaysOfLinesChanged(t *testing.T) {
	for _, days := range []string{"0-0", "0-1", "0-7", "0-999", "1-1", "3-9", "500-501", "990-999", "998-999", "999-999"} {
		for _, in := range []string{"", " C*3", " C*0", " D*5", " D*0", " D*2"} {
			lines := datedLines("B>D*1 0-999, A>D*2 " + days + " LID=X & !COLOR=RED, C>D*1 0-999")
			for _, day := range slices.Concat(innerDays(), []int{10, 11, 498, 502, 989, 990}) {
				checkApplied(t, kinds(), lines, changeFrom(strconv.Itoa(day)+" A>D"+in))
			}
		}
	}
	checkChange(t, kinds(), "A>D*2 999-999", "999 A>D C*1", "A>C*1 999-999")
	checkChange(t, kinds(), "A>D*2 0-999", "999 A>D C*1", "A>D*2 0-998, A>C*1 999-999")
	checkChange(t, kinds(), "A>D*2 0-999", "0 A>D C*1", "A>C*1 0-999")
	checkChange(t, kinds(), "A>D*2 0-0", "0 A>D C*1", "A>C*1 0-0")
	checkChange(t, kinds(), "A>D*2 0-0", "1 A>D C*1", "A>D*2 0-0")
	checkChange(t, kinds(), "A>D*2 0-999", "1 A>D", "A>D*2 0-0")
	checkChange(t, kinds(), "A>D*2 0-999", "0 A>D", "")
}

func TestChangeCases(t *testing.T) {
	for _, c := range [][3]string{
		// several lines, each in its place, with the days, the quantity and the condition of each
		{"A>D*1 0-9, C>D*2 0-9, A>D*3 5-20 LID=X, A>B*4 0-9, A>D*5 7-7", "7 A>D E*0", "A>D*1 0-6, A>E*1 7-9, C>D*2 0-9, A>D*3 5-6 LID=X, A>E*3 7-20 LID=X, A>B*4 0-9, A>E*5 7-7"},
		{"A>D*1 0-9, C>D*2 0-9, A>D*3 5-20 LID=X, A>B*4 0-9, A>D*5 7-7", "7 A>D E*8", "A>D*1 0-6, A>E*8 7-9, C>D*2 0-9, A>D*3 5-6 LID=X, A>E*8 7-20 LID=X, A>B*4 0-9, A>E*8 7-7"},
		{"A>D*1 0-9, C>D*2 0-9, A>D*3 5-20 LID=X, A>B*4 0-9, A>D*5 7-7", "7 A>D", "A>D*1 0-6, C>D*2 0-9, A>D*3 5-6 LID=X, A>B*4 0-9"},
		{"A>D*1 0-9, C>D*2 0-9, A>D*3 5-20 LID=X, A>B*4 0-9, A>D*5 7-7", "8 A>D", "A>D*1 0-7, C>D*2 0-9, A>D*3 5-7 LID=X, A>B*4 0-9, A>D*5 7-7"},
		// the same line several times
		{"A>D*1 0-9, A>D*1 0-9", "0 A>D E*2", "A>E*2 0-9, A>E*2 0-9"},
		{"A>D*1 0-9, A>D*1 0-9", "4 A>D E*2", "A>D*1 0-3, A>E*2 4-9, A>D*1 0-3, A>E*2 4-9"},
		{"A>D*1 0-9, A>D*1 0-9, A>D*1 0-9", "4 A>D", "A>D*1 0-3, A>D*1 0-3, A>D*1 0-3"},
		{"A>D*1 0-9, A>D*1 0-9, A>D*1 0-9", "10 A>D", "A>D*1 0-9, A>D*1 0-9, A>D*1 0-9"},
		{"A>D*1 0-9, A>D*1 0-9, A>D*1 0-9", "9 A>D D*1", "A>D*1 0-8, A>D*1 9-9, A>D*1 0-8, A>D*1 9-9, A>D*1 0-8, A>D*1 9-9"},
		// lines that follow one another: the earlier one ends before, is cut or is replaced, and the later ones are replaced as a whole
		{"A>D*1 0-9, A>D*2 10-19, A>D*3 20-29", "9 A>D E*0", "A>D*1 0-8, A>E*1 9-9, A>E*2 10-19, A>E*3 20-29"},
		{"A>D*1 0-9, A>D*2 10-19, A>D*3 20-29", "10 A>D E*0", "A>D*1 0-9, A>E*2 10-19, A>E*3 20-29"},
		{"A>D*1 0-9, A>D*2 10-19, A>D*3 20-29", "11 A>D E*0", "A>D*1 0-9, A>D*2 10-10, A>E*2 11-19, A>E*3 20-29"},
		{"A>D*1 0-9, A>D*2 10-19, A>D*3 20-29", "20 A>D E*4", "A>D*1 0-9, A>D*2 10-19, A>E*4 20-29"},
		{"A>D*3 20-29, A>D*2 10-19, A>D*1 0-9", "15 A>D E*0", "A>E*3 20-29, A>D*2 10-14, A>E*2 15-19, A>D*1 0-9"},
		{"A>D*1 0-9, A>D*2 10-19, A>D*3 20-29", "10 A>D", "A>D*1 0-9"},
		{"A>D*1 0-9, A>D*2 10-19, A>D*3 20-29", "0 A>D", ""},
		// no line is met: another parent, another part, the other way round, too early, nothing of a bought item
		{"A>D*1 0-9, B>E*2 0-9", "0 A>E C*1", "A>D*1 0-9, B>E*2 0-9"},
		{"A>D*1 0-9, B>E*2 0-9", "0 B>D", "A>D*1 0-9, B>E*2 0-9"},
		{"A>D*1 0-9, B>E*2 0-9", "0 D>A", "A>D*1 0-9, B>E*2 0-9"},
		{"A>D*1 0-9, B>E*2 0-9", "10 A>D", "A>D*1 0-9, B>E*2 0-9"},
		{"A>D*1 0-9, B>E*2 0-9", "0 D>D A*1", "A>D*1 0-9, B>E*2 0-9"},
		// In is already a part, and stays beside what takes the place of Out
		{"A>C*1 0-9, A>D*2 0-9, A>C*3 0-9", "5 A>D C*0", "A>C*1 0-9, A>D*2 0-4, A>C*2 5-9, A>C*3 0-9"},
		// also conditions that no choice fulfils are kept
		{"A>D*1 0-9 !TRUE, A>D*2 0-9 LID=X & LID=Y", "3 A>D E*0", "A>D*1 0-2 !TRUE, A>E*1 3-9 !TRUE, A>D*2 0-2 LID=X & LID=Y, A>E*2 3-9 LID=X & LID=Y"},
		// parts of all kinds
		{"A>C*1 0-9", "3 A>C B*0", "A>C*1 0-2, A>B*1 3-9"},
		{"B>C*1 0-9", "3 B>C D*1000", "B>C*1 0-2, B>D*1000 3-9"},
		{"B>D*1000 0-9", "3 B>D A*1", "B>D*1000 0-2, B>A*1 3-9"},
	} {
		checkChange(t, kinds(), c[0], c[1], c[2])
	}
}

// TestPartsInOfChanges changes one line to each item: those that contain its parent do not do.
func TestPartsInOfChanges(t *testing.T) {
	catalog := madeItems("A B C D E F")
	lines := "A>B*1 0-9, B>C*2 0-9, C>D*3 0-9, A>E*4 0-9"
	for in, fits := range map[string]bool{"A": false, "B": false, "C": false, "D": true, "E": true, "F": true} {
		for _, day := range []string{"0", "5", "9"} {
			x := changeFrom(day + " C>D " + in + "*0")
			checkApplied(t, catalog, datedLines(lines), x)
			if got, ok := impl.ApplyChange(catalog, datedLines(lines), x); ok != fits || !ok && len(got) != 0 {
				t.Errorf("on %s %s in C: %s, %v", day, in, textOfLines(got), ok)
			}
		}
	}
}

// TestCirclesByChanges has changes by which an item would contain itself, if only on days that never meet or for no choice.
func TestCirclesByChanges(t *testing.T) {
	catalog := madeItems("A B C D")
	for _, c := range [][2]string{
		{"A>B*1 0-9", "0 A>B A*1"}, {"A>B*1 0-9", "9 A>B A*0"}, {"A>B*1 0-9 !TRUE", "5 A>B A*0"},
		{"A>B*1 0-9, B>C*1 0-9", "0 B>C A*1"}, {"A>B*1 0-9, B>C*1 0-9", "5 B>C A*0"}, {"A>B*1 0-9, B>C*1 0-9", "5 B>C B*0"},
		{"A>B*1 0-9, B>C*1 10-19", "10 B>C A*1"}, {"A>B*1 0-9 LID=X, B>C*1 0-9 !LID=X", "0 B>C A*1"},
		{"A>B*1 0-9, B>C*1 0-9, C>D*1 0-9", "3 C>D A*1"}, {"C>D*1 0-9, B>C*1 0-9, A>B*1 0-9", "3 C>D B*1"},
		{"A>B*1 0-9, C>D*1 0-9", "0 C>D C*1"}, {"A>B*1 0-9, B>D*1 0-9, C>D*1 0-9, B>C*1 0-0", "9 C>D A*1"},
		// only one of several lines that are met, and only what is left of the days before
		{"C>D*1 0-9, A>B*1 0-9, B>C*1 0-9, C>D*1 10-20", "10 C>D B*0"},
		{"A>B*1 0-9, D>C*1 0-9", "5 D>C A*1, 5 A>B D*1"},
		{"A>B*1 0-9, B>C*1 5-9", "5 A>B C*1, 5 B>C A*1"},
	} {
		changes := changesFrom(c[1])
		lines := datedLines(c[0])
		if got, ok := impl.ApplyChanges(catalog, lines, changes); ok || len(got) != 0 {
			t.Errorf("%s: ApplyChanges %s is %s, %v", c[0], c[1], textOfLines(got), ok)
		}
		if len(changes) == 1 {
			checkNoChange(t, catalog, lines, changes[0])
		}
	}
	for _, c := range [][3]string{
		// what led to the circle is taken away as a whole, or never met
		{"A>B*1 5-9, B>C*1 0-9", "5 A>B C*1, 0 B>C A*1", "A>C*1 5-9, B>A*1 0-9"},
		{"A>B*1 5-9, B>C*1 0-9", "5 A>B C*1, 9 B>C D*1", "A>C*1 5-9, B>C*1 0-8, B>D*1 9-9"},
		{"A>B*1 5-9", "5 A>B, 0 A>B A*1", ""},
		{"A>B*1 0-9, B>C*1 0-9", "10 B>C A*1", "A>B*1 0-9, B>C*1 0-9"},
		{"A>B*1 0-9", "10 A>B A*1", "A>B*1 0-9"},
		{"A>B*1 0-9", "0 B>A B*1", "A>B*1 0-9"},
		{"A>B*1 0-9, B>C*1 0-9", "0 A>B D*1, 0 B>C A*1", "A>D*1 0-9, B>A*1 0-9"},
	} {
		if got, ok := impl.ApplyChanges(catalog, datedLines(c[0]), changesFrom(c[1])); !ok || textOfLines(got) != c[2] {
			t.Errorf("%s: ApplyChanges %s is %s, %v, not %s", c[0], c[1], textOfLines(got), ok, c[2])
		}
	}
}

// TestMostLinesAfterChanges has changes that cut so many of so many lines in two.
func TestMostLinesAfterChanges(t *testing.T) {
	r := rand.New(rand.NewSource(24))
	for n := range mostLines + 1 {
		for cut := range n + 1 {
			lines := slices.Repeat(datedLines("A>D*1 0-999"), n)
			for _, i := range r.Perm(n)[cut:] {
				lines[i].From = 5
			}
			for in, want := range map[string]int{" C*1": n + cut, " D*0": n + cut, "": cut} {
				x := changeFrom("5 A>D" + in)
				checkApplied(t, kinds(), lines, x)
				got, ok := impl.ApplyChange(kinds(), lines, x)
				if ok != (want <= 24) || ok && len(got) != want || !ok && len(got) != 0 {
					t.Errorf("%d lines, %d of them cut by %+v: %d, %v", n, cut, x, len(got), ok)
				}
			}
		}
	}
	full := slices.Repeat(datedLines("A>D*1 0-9, A>B*1 0-9"), mostLines/2)
	for s, want := range map[string]bool{"0 A>D C*3": true, "1 A>D C*3": false, "9 A>D D*0": false, "10 A>D C*3": true, "1 A>D": true, "0 A>D": true, "1 C>D E*1": true} {
		checkApplied(t, kinds(), full, changeFrom(s))
		if _, ok := impl.ApplyChange(kinds(), full, changeFrom(s)); ok != want {
			t.Errorf("%s of %d lines: %v", s, len(full), ok)
		}
	}
}

// checkChanges checks the lines after some changes, as texts; none of them fails.
func checkChanges(t *testing.T, lines string, changes string, want string) {
	t.Helper()
	got, ok := impl.ApplyChanges(kinds(), datedLines(lines), changesFrom(changes))
	if !ok || textOfLines(got) != want {
		t.Errorf("%s: ApplyChanges %s is %s, %v, not %s", lines, changes, textOfLines(got), ok, want)
	}
}

// checkNoChanges checks that one of some changes fails.
func checkNoChanges(t *testing.T, lines []impl.BillLine, changes []impl.Change) {
	t.Helper()
	if got, ok := impl.ApplyChanges(kinds(), lines, changes); ok || len(got) != 0 {
		t.Errorf("%s: ApplyChanges %+v is %s, %v", textOfLines(lines), changes, textOfLines(got), ok)
	}
}

// TestChangesTogether has changes that rest on earlier ones, and changes in two orders.
func TestChangesTogether(t *testing.T) {
	for _, c := range [][3]string{
		{"A>D*1 0-9", "", "A>D*1 0-9"},
		{"A>D*1 0-9, A>D*1 10-19", "", "A>D*1 0-9, A>D*1 10-19"},
		{"A>D*1 0-9", "5 A>D C*2", "A>D*1 0-4, A>C*2 5-9"},
		{"A>D*1 0-9", "3 A>D C*2, 6 A>C E*0", "A>D*1 0-2, A>C*2 3-5, A>E*2 6-9"},
		{"A>D*1 0-9", "6 A>C E*0, 3 A>D C*2", "A>D*1 0-2, A>C*2 3-9"},
		{"A>D*1 0-9", "3 A>D C*2, 6 A>D E*5", "A>D*1 0-2, A>C*2 3-9"},
		{"A>D*1 0-9", "6 A>D E*5, 3 A>D C*2", "A>D*1 0-2, A>C*2 3-5, A>E*5 6-9"},
		{"A>D*1 0-9", "6 A>D, 3 A>D C*0, 4 A>C E*0, 5 A>E", "A>D*1 0-2, A>C*1 3-3, A>E*1 4-4"},
		{"A>D*1 0-9", "5 A>D C*2, 5 A>C D*1", "A>D*1 0-4, A>D*1 5-9"},
		{"A>D*1 0-9", "5 A>D D*2, 5 A>D D*1", "A>D*1 0-4, A>D*1 5-9"},
		{"A>D*1 0-9", "5 A>D D*2, 4 A>D D*3", "A>D*1 0-3, A>D*3 4-4, A>D*3 5-9"},
		{"A>D*1 0-9", "0 A>D, 0 A>D C*1", ""},
		{"A>D*1 0-9, C>D*2 0-9", "3 A>D E*0, 4 C>D E*7", "A>D*1 0-2, A>E*1 3-9, C>D*2 0-3, C>E*7 4-9"},
		{"A>C*1 0-9, C>D*2 0-9", "0 A>C, 0 C>D A*0", "C>A*2 0-9"},
	} {
		checkChanges(t, c[0], c[1], c[2])
	}
	// in the other order there would be a circle
	checkNoChanges(t, datedLines("A>C*1 0-9, C>D*2 0-9"), changesFrom("0 C>D A*0, 0 A>C"))
	// nor may there be too many lines only in between
	full := slices.Repeat(datedLines("A>D*1 0-9"), mostLines)
	checkNoChanges(t, full, changesFrom("5 A>D C*1, 0 A>C"))
	checkNoChanges(t, full, changesFrom("5 A>D C*1, 0 A>C, 0 A>D"))
	if got, ok := impl.ApplyChanges(kinds(), full, changesFrom("5 A>D, 3 A>D")); !ok || len(got) != mostLines || got[9].Until != 2 {
		t.Errorf("ApplyChanges is %s, %v", textOfLines(got), ok)
	}
}

// TestNumberOfChanges has lists of changes up to the longest one and beyond.
func TestNumberOfChanges(t *testing.T) {
	lines := datedLines("A>D*1 0-99, C>D*2 0-99")
	for n := range 2*mostChanges + 1 {
		var changes []impl.Change
		want := lines
		for i := range n {
			changes = append(changes, impl.Change{Day: 10 * (i + 1), Parent: "A", Out: "D", In: "D", Quantity: i + 2})
			want = changedByHand(want, changes[i])
		}
		if n > 8 {
			checkNoChanges(t, lines, changes)
			checkNoChanges(t, nil, changes)
			continue
		}
		got, ok := impl.ApplyChanges(kinds(), lines, changes)
		if !ok || !sameLines(got, want) || len(got) != 2+n {
			t.Errorf("%d changes: %s, %v", n, textOfLines(got), ok)
		}
	}
	idle := changeFrom("500 A>D")
	for _, n := range []int{mostChanges + 1, 100, 10000} {
		checkNoChanges(t, lines, slices.Repeat([]impl.Change{idle}, n))
		checkNoChanges(t, nil, slices.Repeat([]impl.Change{idle}, n))
	}
	if got, ok := impl.ApplyChanges(kinds(), lines, slices.Repeat([]impl.Change{idle}, mostChanges)); !ok || !sameLines(got, lines) {
		t.Errorf("%s, %v", textOfLines(got), ok)
	}
}

// TestOneOfChangesFails has one change that fails, in each place among others that do not.
func TestOneOfChangesFails(t *testing.T) {
	lines := datedLines("A>C*1 0-99, C>D*2 0-99")
	for _, failing := range []impl.Change{
		{}, changeFrom("-1 A>C"), changeFrom("1000 A>C"), changeFrom("5 F>C"), changeFrom("5 A>F"), changeFrom("5 A>C F*1"), changeFrom("5 A>C E*-1"), changeFrom("5 A>C E*1001"),
		{Day: 5, Parent: "A", Out: "C", Quantity: 1}, changeFrom("5 A>C A*0"), changeFrom("5 C>D A*1"),
	} {
		for n := 1; n <= mostChanges; n++ {
			for place := range n {
				var changes []impl.Change
				for i := range n {
					changes = append(changes, impl.Change{Day: 10 * (i + 1), Parent: "A", Out: "C", In: "C", Quantity: i + 2})
				}
				if _, ok := impl.ApplyChanges(kinds(), lines, changes); !ok {
					t.Errorf("%+v fail", changes)
				}
				changes[place] = failing
				checkNoChanges(t, lines, changes)
			}
		}
	}
}

// checkOn checks BillsOn for valid bills on a day.
func (b bills) checkOn(t *testing.T, day int) {
	t.Helper()
	got := impl.BillsOn(b.catalog, b.lines, day)
	if want := onByHand(b.lines, day); !sameLines(got, want) {
		t.Errorf("%v: BillsOn %d is %s, not %s", b, day, textOfLines(got), textOfLines(want))
	}
	if !impl.IsBills(b.catalog, got) || !sameLines(impl.BillsOn(b.catalog, got, day), got) {
		t.Errorf("%v: BillsOn %d is %s, which are no bills, or others on this day", b, day, textOfLines(got))
	}
	for _, choice := range someChoices() {
		for _, x := range b.catalog {
			// what is in force for a choice is the same, but for the days of the lines
			all := onByHand(impl.LinesOf(b.catalog, b.lines, x.Code, day, choice), day)
			if on := impl.LinesOf(b.catalog, got, x.Code, day, choice); !sameLines(on, all) {
				t.Errorf("%v: on %d %s has the lines %s for %q, not %s", b, day, x.Code, textOfLines(on), choice, textOfLines(all))
			}
		}
	}
}

func TestBillsOnDays(t *testing.T) {
	b := bills{catalog: kinds()}
	for _, s := range []string{"A>D*1 0-0", "A>D*2 0-9", "C>D*3 5-999", "A>C*4 10-10", "A>D*2 10-999", "C>D*6 999-999", "B>D*7 0-999"} {
		b.add(datedLine(s), condTrue())
	}
	for day, want := range map[int]string{
		0: "A>D*1 0-0, A>D*2 0-0, B>D*7 0-0", 1: "A>D*2 1-1, B>D*7 1-1", 4: "A>D*2 4-4, B>D*7 4-4", 5: "A>D*2 5-5, C>D*3 5-5, B>D*7 5-5",
		9: "A>D*2 9-9, C>D*3 9-9, B>D*7 9-9", 10: "C>D*3 10-10, A>C*4 10-10, A>D*2 10-10, B>D*7 10-10", 11: "C>D*3 11-11, A>D*2 11-11, B>D*7 11-11",
		998: "C>D*3 998-998, A>D*2 998-998, B>D*7 998-998", 999: "C>D*3 999-999, A>D*2 999-999, C>D*6 999-999, B>D*7 999-999",
		-1: "", 1000: "", math.MinInt: "", math.MaxInt: "",
	} {
		if got := impl.BillsOn(b.catalog, b.lines, day); textOfLines(got) != want {
			t.Errorf("BillsOn %d is %s, not %s", day, textOfLines(got), want)
		}
		b.checkOn(t, day)
	}
	for _, day := range noDays() {
		if got := impl.BillsOn(b.catalog, b.lines, day); len(got) != 0 {
			t.Errorf("BillsOn %d is %s", day, textOfLines(got))
		}
	}
}

// TestBillsOnForAnyChoice has lines with conditions, also such that no choice fulfils: all of them are there.
func TestBillsOnForAnyChoice(t *testing.T) {
	b := bills{catalog: kinds()}
	conditions := []condTree{condTrue(), condNot(condTrue()), condIs("A", "X"), condNot(condIs("A", "X")), condAnd(condIs("A", "X"), condNot(condIs("A", "X"))), condAnd(condIs("A", "X"), condIs("A", "Y"))}
	for i, c := range append(conditions, treesOfSize(mostCond)...) {
		if len(b.lines) == mostLines {
			break
		}
		x := lineFrom("A", "D")
		x.Quantity, x.From = i+1, i%3
		b.add(x, c)
	}
	for _, day := range b.askedDays() {
		b.checkOn(t, day)
	}
	if got := impl.BillsOn(b.catalog, b.lines, 2); len(got) != len(b.lines) || len(got) < len(conditions) {
		t.Errorf("BillsOn are %d lines", len(got))
	}
}

// checkTidy checks the lines after tidying, as texts.
func checkTidy(t *testing.T, lines string, want string) {
	t.Helper()
	got := impl.TidyLines(kinds(), datedLines(lines))
	if textOfLines(got) != want {
		t.Errorf("%s: TidyLines is %s, not %s", lines, textOfLines(got), want)
	}
	checkTidied(t, kinds(), datedLines(lines))
}

// checkTidied checks that valid lines are tidied, and cannot be tidied more.
func checkTidied(t *testing.T, catalog []impl.Item, lines []impl.BillLine) {
	t.Helper()
	got := impl.TidyLines(catalog, lines)
	if want := tidiedByHand(lines); !sameLines(got, want) {
		t.Errorf("%s: TidyLines is %s, not %s", textOfLines(lines), textOfLines(got), textOfLines(want))
	}
	if again := impl.TidyLines(catalog, got); !sameLines(again, got) || !impl.IsBills(catalog, got) {
		t.Errorf("%s: TidyLines is %s, and tidied again %s", textOfLines(lines), textOfLines(got), textOfLines(again))
	}
}

func TestLinesThatAreJoined(t *testing.T) {
	for lines, want := range map[string]string{
		"A>D*1 0-9":                                               "A>D*1 0-9",
		"A>D*1 0-9, A>D*1 10-19":                                  "A>D*1 0-19",
		"A>D*1 0-0, A>D*1 1-1":                                    "A>D*1 0-1",
		"A>D*1 0-998, A>D*1 999-999":                              "A>D*1 0-999",
		"A>D*1 0-9 LID=X, A>D*1 10-19 LID=X":                      "A>D*1 0-19 LID=X",
		"A>D*1 0-9 !TRUE, A>D*1 10-19 !TRUE":                      "A>D*1 0-19 !TRUE",
		"A>D*1 0-9, A>D*1 10-19, A>D*1 20-29":                     "A>D*1 0-29",
		"A>D*1 3-3, A>D*1 4-4, A>D*1 5-5":                         "A>D*1 3-5",
		"A>D*1 0-4, A>D*1 5-9, A>D*1 11-15":                       "A>D*1 0-9, A>D*1 11-15",
		"A>D*1 0-4, A>D*1 6-9, A>D*1 10-15":                       "A>D*1 0-4, A>D*1 6-15",
		"A>C*1 0-9, A>D*1 0-9, A>D*1 10-19":                       "A>C*1 0-9, A>D*1 0-19",
		"A>D*1 0-9, A>D*1 10-19, A>C*1 0-9":                       "A>D*1 0-19, A>C*1 0-9",
		"A>D*1 0-4, A>D*1 5-9, C>D*2 0-4":                         "A>D*1 0-9, C>D*2 0-4",
		"A>D*1 0-4, A>D*1 5-9, A>D*2 10-14":                       "A>D*1 0-9, A>D*2 10-14",
		"A>D*1 0-4, A>D*1 5-9, C>D*1 0-4, C>D*1 5-9, A>D*1 10-14": "A>D*1 0-9, C>D*1 0-9, A>D*1 10-14",
		// what begins after the first one ends is not what begins after both
		"A>D*1 0-4, A>D*1 5-9, A>D*1 5-9":              "A>D*1 0-9, A>D*1 5-9",
		"A>D*1 0-4, A>D*1 5-9, A>D*1 5-9, A>D*1 10-14": "A>D*1 0-9, A>D*1 5-14",
		"A>D*1 5-9, A>D*1 0-4, A>D*1 5-9":              "A>D*1 5-9, A>D*1 0-9",
	} {
		checkTidy(t, lines, want)
	}
}

func TestLinesThatAreNotJoined(t *testing.T) {
	for _, lines := range []string{
		"",
		// another Parent, Part, Quantity or When
		"A>D*1 0-9, C>D*1 10-19", "A>D*1 0-9, A>C*1 10-19", "A>D*1 0-9, A>D*2 10-19", "A>D*2 0-9, A>D*1 10-19",
		"A>D*1 0-9, A>D*1 10-19 LID=X", "A>D*1 0-9 LID=X, A>D*1 10-19", "A>D*1 0-9 LID=X, A>D*1 10-19 LID=Y", "A>D*1 0-9 LID=X, A>D*1 10-19 COLOR=X", "A>D*1 0-9 LID=X, A>D*1 10-19 !LID=X",
		// conditions that hold for the same choices, but are not the same
		"A>D*1 0-9, A>D*1 10-19 !!TRUE", "A>D*1 0-9 LID=X & COLOR=X, A>D*1 10-19 COLOR=X & LID=X", "A>D*1 0-9 LID=X & (A=X & B=X), A>D*1 10-19 LID=X & A=X & B=X",
		"A>D*1 0-9 LID=X | TRUE, A>D*1 10-19", "A>D*1 0-9 LID=X, A>D*1 10-19 LID=X & LID=X", "A>D*1 0-9 LID=X & LID=X, A>D*1 10-19 LID=X",
		// a gap, an overlap, the same line twice
		"A>D*1 0-9, A>D*1 11-19", "A>D*1 0-9, A>D*1 12-19", "A>D*1 0-0, A>D*1 999-999", "A>D*1 0-9, A>D*1 9-19", "A>D*1 0-9, A>D*1 8-19", "A>D*1 0-9, A>D*1 0-19", "A>D*1 0-9, A>D*1 5-7", "A>D*1 0-9, A>D*1 0-9", "A>D*1 7-7, A>D*1 7-7",
		// another line between them
		"A>D*1 0-9, A>C*1 0-9, A>D*1 10-19", "A>D*1 0-9, C>D*1 10-19, A>D*1 10-19", "A>D*1 0-9, A>D*2 10-19, A>D*1 10-19", "A>D*1 0-9, A>D*1 10-19 LID=X, A>D*1 10-19", "A>D*1 0-9, A>D*2 10-19, A>D*1 20-29",
		// the later one first
		"A>D*1 10-19, A>D*1 0-9", "A>D*1 20-29, A>D*1 10-19, A>D*1 0-9", "A>D*1 999-999, A>D*1 0-0", "A>D*1 1-1, A>D*1 0-0",
	} {
		checkTidy(t, lines, lines)
	}
}

// TestMostLinesJoined has as many lines in a row as there may be, with one that breaks the row.
func TestMostLinesJoined(t *testing.T) {
	for n := 1; n <= mostLines; n++ {
		var lines []impl.BillLine
		for i := range n {
			lines = append(lines, datedLine(fmt.Sprintf("A>D*3 %d-%d LID=X", 10*i, 10*i+9)))
		}
		if got := textOfLines(impl.TidyLines(kinds(), lines)); got != fmt.Sprintf("A>D*3 0-%d LID=X", 10*n-1) {
			t.Errorf("%d lines: %s", n, got)
		}
		checkTidied(t, kinds(), lines)
		for i := range lines {
			broken := slices.Clone(lines)
			broken[i].Quantity = 4
			checkTidied(t, kinds(), broken)
			if got, want := len(impl.TidyLines(kinds(), broken)), 1+min(i, 1)+min(n-1-i, 1); got != want {
				t.Errorf("%d lines, broken at %d: %d lines", n, i, got)
			}
		}
	}
}

// sayings are what lines say of an item on a day and for a choice: its parts in order.
func sayings(catalog []impl.Item, lines []impl.BillLine, code string, day int, choice []impl.Pick) []impl.Need {
	var l []impl.Need
	for _, x := range impl.LinesOf(catalog, lines, code, day, choice) {
		l = append(l, impl.Need{Code: x.Part, Quantity: x.Quantity})
	}
	return l
}

// sayingsAfter are what must be said after a change of the parts of an item on a day.
func sayingsAfter(before []impl.Need, x impl.Change, code string, day int) []impl.Need {
	var l []impl.Need
	for _, n := range before {
		switch {
		case code != x.Parent || n.Code != x.Out || day < x.Day:
			l = append(l, n)
		case x.In != "" && x.Quantity != 0:
			l = append(l, impl.Need{Code: x.In, Quantity: x.Quantity})
		case x.In != "":
			l = append(l, impl.Need{Code: x.In, Quantity: n.Quantity})
		}
	}
	return l
}

// changeOfChance returns a valid change by chance, mostly of a line.
func changeOfChance(r *rand.Rand, b bills) impl.Change {
	codes := make([]string, len(b.catalog))
	for i, x := range b.catalog {
		codes[i] = x.Code
	}
	x := impl.Change{Day: r.Intn(8), Parent: codes[r.Intn(len(codes))], Out: codes[r.Intn(len(codes))]}
	if len(b.lines) > 0 && r.Intn(6) > 0 {
		line := b.lines[r.Intn(len(b.lines))]
		x.Parent, x.Out = line.Parent, line.Part
	}
	if r.Intn(5) > 0 {
		x.In = codes[r.Intn(len(codes))]
		x.Quantity = r.Intn(2) * (1 + r.Intn(mostPer))
	}
	if r.Intn(5) == 0 {
		x.In, x.Quantity = x.Out, 0
	}
	return x
}

// checkOnlyFromItsDay checks on each day that a change changes nothing but its part from its day on.
func (b bills) checkOnlyFromItsDay(t *testing.T, x impl.Change, choices [][]impl.Pick) {
	t.Helper()
	after, ok := impl.ApplyChange(b.catalog, b.lines, x)
	if !ok {
		return
	}
	for _, day := range append(b.askedDays(), x.Day-1, x.Day, x.Day+1) {
		for _, item := range b.catalog {
			for _, choice := range choices {
				want := sayingsAfter(sayings(b.catalog, b.lines, item.Code, day, choice), x, item.Code, day)
				if got := sayings(b.catalog, after, item.Code, day, choice); !slices.Equal(got, want) {
					t.Errorf("%v: after %+v %s has the parts %v on %d for %q, not %v", b, x, item.Code, got, day, choice, want)
				}
			}
		}
	}
}

// TestChangesOnlyFromTheirDay has bills and changes by chance.
func TestChangesOnlyFromTheirDay(t *testing.T) {
	r := rand.New(rand.NewSource(11))
	applied, failed := 0, 0
	for range 400 {
		b := billsOfChance(r, 2+r.Intn(mostItems-1), r.Intn(mostLines+1))
		choices := someChoices()
		r.Shuffle(len(choices), func(i, j int) { choices[i], choices[j] = choices[j], choices[i] })
		for range 4 {
			x := changeOfChance(r, b)
			checkApplied(t, b.catalog, b.lines, x)
			b.checkOnlyFromItsDay(t, x, choices[:2])
			if _, ok := impl.ApplyChange(b.catalog, b.lines, x); ok {
				applied++
			} else {
				failed++
			}
		}
	}
	if applied < 500 || failed < 100 {
		t.Errorf("%d changes applied, %d failed", applied, failed)
	}
}

// TestSmallChanges goes through all lines of a few days, and all changes of them.
func TestSmallChanges(t *testing.T) {
	catalog := itemsFrom("A B [C]")
	for from := range 4 {
		for until := from; until < 4; until++ {
			b := bills{catalog: catalog}
			for _, s := range []string{"A>B*2 %d-%d", "B>C*3 1-2", "A>B*2 1-2", "A>C*5 %d-%d"} {
				if strings.Contains(s, "%") {
					s = fmt.Sprintf(s, from, until)
				}
				b.add(datedLine(s), condTrue())
			}
			for day := range 5 {
				for _, ends := range []string{"A>A", "A>B", "A>C", "B>A", "B>B", "B>C", "C>A", "C>B", "C>C"} {
					for _, in := range []string{"", " A*0", " B*0", " C*0", " A*7", " B*7", " C*7"} {
						x := changeFrom(strconv.Itoa(day) + " " + ends + in)
						checkApplied(t, catalog, b.lines, x)
						b.checkOnlyFromItsDay(t, x, [][]impl.Pick{nil})
					}
				}
			}
		}
	}
}

// TestChangesInTwoParts has changes by chance: all together they are the first ones and then the others.
func TestChangesInTwoParts(t *testing.T) {
	r := rand.New(rand.NewSource(111))
	applied := 0
	for range 400 {
		b := billsOfChance(r, 3+r.Intn(mostItems-2), r.Intn(mostLines/2))
		var changes []impl.Change
		for range r.Intn(mostChanges + 1) {
			changes = append(changes, changeOfChance(r, b))
		}
		want, wantOk := impl.ApplyChanges(b.catalog, b.lines, changes)
		byHand, byHandOk := b.lines, true
		for _, x := range changes {
			byHand = changedByHand(byHand, x)
			byHandOk = byHandOk && impl.IsBills(b.catalog, byHand)
		}
		if wantOk != byHandOk || wantOk && !sameLines(want, byHand) || !wantOk && len(want) != 0 {
			t.Errorf("%v: ApplyChanges %+v is %s, %v", b, changes, textOfLines(want), wantOk)
		}
		for k := range len(changes) + 1 {
			first, ok := impl.ApplyChanges(b.catalog, b.lines, changes[:k])
			var got []impl.BillLine
			if ok {
				got, ok = impl.ApplyChanges(b.catalog, first, changes[k:])
			}
			if ok != wantOk || !sameLines(got, want) {
				t.Errorf("%v: %+v after %d of them is %s, %v, not %s, %v", b, changes, k, textOfLines(got), ok, textOfLines(want), wantOk)
			}
		}
		if wantOk {
			applied++
		}
	}
	if applied < 50 || applied > 350 {
		t.Errorf("%d of 400 applied", applied)
	}
}

// cutLines returns lines of which some are cut in two or three pieces in time.
func cutLines(r *rand.Rand, lines []impl.BillLine) []impl.BillLine {
	var l []impl.BillLine
	for _, x := range lines {
		for range r.Intn(3) {
			if len(l) < mostLines/2 && x.From < x.Until {
				first := x
				first.Until = x.From + r.Intn(x.Until-x.From)
				x.From = first.Until + 1
				l = append(l, first)
			}
		}
		l = append(l, x)
	}
	return l
}

// TestTidiedLinesSayTheSame has lines by chance of which some are cut in pieces: on every day they say the same, tidied or not.
func TestTidiedLinesSayTheSame(t *testing.T) {
	r := rand.New(rand.NewSource(1111))
	joined := 0
	for range 300 {
		b := billsOfChance(r, 2+r.Intn(mostItems-1), r.Intn(mostLines/2))
		cut := cutLines(r, b.lines)
		checkTidied(t, b.catalog, b.lines)
		checkTidied(t, b.catalog, cut)
		tidy := impl.TidyLines(b.catalog, cut)
		if want := impl.TidyLines(b.catalog, b.lines); !sameLines(tidy, want) {
			t.Errorf("%v: cut in pieces and tidied %s, but whole %s", b, textOfLines(tidy), textOfLines(want))
		}
		joined += len(cut) - len(tidy)
		choices := someChoices()
		for day := -1; day <= 10; day++ {
			choice := choices[r.Intn(len(choices))]
			for _, x := range b.catalog {
				got, want := sayings(b.catalog, tidy, x.Code, day, choice), sayings(b.catalog, cut, x.Code, day, choice)
				if !slices.Equal(got, want) {
					t.Errorf("%s: on %d %s has the parts %v, and tidied %v", textOfLines(cut), day, x.Code, want, got)
				}
			}
			if got, want := impl.BillsOn(b.catalog, tidy, day), impl.BillsOn(b.catalog, cut, day); !sameLines(got, want) {
				t.Errorf("%s: on %d these are %s, and tidied %s", textOfLines(cut), day, textOfLines(want), textOfLines(got))
			}
		}
	}
	if joined < 200 {
		t.Errorf("%d lines joined", joined)
	}
}

// TestChangesOfNothingAreTidiedAway has changes that change nothing: In is Out, and the quantity stays or is the one that is there.
func TestChangesOfNothingAreTidiedAway(t *testing.T) {
	r := rand.New(rand.NewSource(11111))
	cut := 0
	for range 300 {
		b := billsOfChance(r, 2+r.Intn(mostItems-1), 1+r.Intn(mostLines/2))
		line := b.lines[r.Intn(len(b.lines))]
		x := impl.Change{Day: r.Intn(10), Parent: line.Parent, Out: line.Part, In: line.Part}
		if r.Intn(2) == 0 {
			for i, y := range b.lines {
				if y.Parent == line.Parent && y.Part == line.Part {
					b.lines[i].Quantity = 7
				}
			}
			x.Quantity = 7
		}
		after, ok := impl.ApplyChange(b.catalog, b.lines, x)
		if got, want := impl.TidyLines(b.catalog, after), impl.TidyLines(b.catalog, b.lines); !ok || !sameLines(got, want) {
			t.Errorf("%v: after %+v and tidied %s, %v, not %s", b, x, textOfLines(got), ok, textOfLines(want))
		}
		cut += len(after) - len(b.lines)
	}
	if cut < 50 {
		t.Errorf("%d lines cut", cut)
	}
	for day := range 30 {
		for _, in := range []string{"D*0", "D*2"} {
			lines := datedLines("C>D*1 0-9, A>D*2 10-19 LID=X, A>C*3 0-9")
			after, ok := impl.ApplyChange(kinds(), lines, changeFrom(strconv.Itoa(day)+" A>D "+in))
			if got := impl.TidyLines(kinds(), after); !ok || !sameLines(got, lines) {
				t.Errorf("on %d: %s, %v", day, textOfLines(got), ok)
			}
		}
	}
}

func TestBillsOnOfChance(t *testing.T) {
	r := rand.New(rand.NewSource(111111))
	for range 30 {
		b := billsOfChance(r, 2+r.Intn(mostItems-1), r.Intn(mostLines+1))
		for _, day := range b.askedDays() {
			b.checkOn(t, day)
		}
	}
}

// useChanges calls all functions of the chapter, returns what they return as a text, and overwrites it.
func (b bills) useChanges(day int, changes []impl.Change) string {
	text := fmt.Sprint(impl.IsChange(b.catalog, changes[0]))
	one, ok := impl.ApplyChange(b.catalog, b.lines, changes[0])
	none, noneOk := impl.ApplyChanges(b.catalog, b.lines, nil)
	all, allOk := impl.ApplyChanges(b.catalog, b.lines, changes)
	on := impl.BillsOn(b.catalog, b.lines, day)
	tidy := impl.TidyLines(b.catalog, b.lines)
	text += fmt.Sprint(one, ok, none, noneOk, all, allOk, on, tidy)
	for _, l := range [][]impl.BillLine{one, none, all, on, tidy} {
		overwrite(l)
	}
	return text
}

// changesOfSpareBills returns lists of changes that meet the first line, the last one, several or none, with one in the unused capacity.
func changesOfSpareBills() [][]impl.Change {
	var all [][]impl.Change
	for _, s := range []string{
		"500 A>B D*1", "0 A>B D*1", "0 A>B", "500 A>B", "500 A>D B*0", "0 A>D", "500 A>D A*1", "0 C>D, 500 A>D", "500 C>D B*1", "7 C>D D*0", "9 D>A", "0 A>B, 0 A>C, 0 B>C, 0 A>D, 0 C>D", "0 A>D, 0 A>D C*9, 500 B>C D*0",
		"500 A>B B*1, 500 A>C C*1, 500 B>C C*1, 500 A>D D*1, 500 C>D D*1",
	} {
		changes := append(changesFrom(s), impl.Change{Day: -7, Parent: "SPARE"})
		all = append(all, changes[:len(changes)-1])
	}
	return all
}

func TestChangesLeaveTheirArguments(t *testing.T) {
	b := spareBills()
	// lines that could be joined in their places
	b.lines[2], b.lines[3], b.lines[4] = b.lines[1], b.lines[1], b.lines[1]
	b.lines[1].Until, b.lines[2].From, b.lines[2].Until, b.lines[3].From = 99, 100, 199, 200
	b.lines[4].Parent, b.lines[4].Part = "C", "D"
	for i := range b.lines {
		b.lines[i].When, _ = spareNodes(b.lines[i].When)
	}
	if !impl.IsBills(b.catalog, b.lines) || len(impl.TidyLines(b.catalog, b.lines)) != 4 {
		t.Fatal("the lines are no bills, or not joined")
	}
	before := b.textOfAll(nil)
	for _, changes := range changesOfSpareBills() {
		beforeChanges := fmt.Sprint(changes[:cap(changes)])
		for _, day := range []int{-1, 0, 150, 500, mostDay, mostDay + 1} {
			first := b.useChanges(day, changes)
			second := b.useChanges(day, changes)
			if first != second {
				t.Errorf("first %s, then %s", first, second)
			}
			if after := b.textOfAll(nil); after != before {
				t.Fatalf("%+v: %s became %s", changes, before, after)
			}
			if after := fmt.Sprint(changes[:cap(changes)]); after != beforeChanges {
				t.Fatalf("%s became %s", beforeChanges, after)
			}
		}
	}
	// bills that are not valid stay too
	b.lines = b.lines[:cap(b.lines)]
	if b.lines[6].Parent != "SPARE" || !strings.HasPrefix(b.useChanges(0, changesFrom("0 A>B")), "true[] false [] false") {
		t.Error("the spare line is not there")
	}
	if after := b.textOfAll(nil); after != before {
		t.Errorf("%s became %s", before, after)
	}
}

// checkApart checks that no lines share memory: each of them is overwritten in turn, and the others stay as they are.
func checkApart(t *testing.T, what string, lines []impl.BillLine) {
	t.Helper()
	want := textOfLines(lines)
	for i := range lines {
		if got := textOfLines(lines[i:]); got != want {
			t.Errorf("%s: from %d on %s, not %s", what, i, got, want)
		}
		overwrite(lines[i : i+1 : i+1])
		_, want, _ = strings.Cut(want, ", ")
	}
}

// TestChangedLinesShareNoMemory gives all lines one condition, and cuts them: those that are returned have one each.
func TestChangedLinesShareNoMemory(t *testing.T) {
	c := condAnd(condIs("LID", "X"), condTrue())
	shared, all := spareNodes(c.list())
	before := slices.Clone(all)
	lines := datedLines("A>B*1 0-9, A>C*2 0-9, A>B*3 5-9, A>C*4 0-9, B>C*5 0-4, B>C*5 5-9, A>D*6 0-9")
	for i := range lines {
		lines[i].When = shared
	}
	lines = slices.Clip(lines)
	catalog := madeItems("A B C D")
	for _, s := range []string{"3 A>B D*1", "3 A>B B*0", "0 A>B", "5 A>C", "3 C>A", "9 A>D", "0 A>D", "1 A>D C*0"} {
		one, ok := impl.ApplyChange(catalog, lines, changeFrom(s))
		all, allOk := impl.ApplyChanges(catalog, lines, changesFrom(s+", 4 A>C D*2"))
		none, noneOk := impl.ApplyChanges(catalog, lines, nil)
		if !ok || !allOk || !noneOk || len(one) == 0 || len(all) == 0 || len(none) != len(lines) {
			t.Errorf("%s: %v, %v, %v", s, one, all, none)
		}
		checkApart(t, s, one)
		checkApart(t, s+" and another one", all)
		checkApart(t, "no changes", none)
	}
	checkApart(t, "BillsOn", impl.BillsOn(catalog, lines, 5))
	checkApart(t, "TidyLines", impl.TidyLines(catalog, lines))
	if got := impl.TidyLines(catalog, lines); len(got) != len(lines)-1 {
		t.Errorf("TidyLines is %s", textOfLines(got))
	}
	if !slices.Equal(all, before) {
		t.Errorf("the condition became %v", all)
	}
}

// TestResultsOfChangesAreNew keeps the results of one call while those of the next ones are overwritten.
func TestResultsOfChangesAreNew(t *testing.T) {
	b := spareBills()
	for _, changes := range changesOfSpareBills() {
		one, _ := impl.ApplyChange(b.catalog, b.lines, changes[0])
		none, _ := impl.ApplyChanges(b.catalog, b.lines, nil)
		all, _ := impl.ApplyChanges(b.catalog, b.lines, changes)
		on, tidy := impl.BillsOn(b.catalog, b.lines, 500), impl.TidyLines(b.catalog, b.lines)
		before := fmt.Sprint(one, none, all, on, tidy)
		for _, others := range changesOfSpareBills() {
			b.useChanges(500, others)
			c := bills{catalog: b.catalog, lines: one}
			c.useChanges(500, others)
		}
		if after := fmt.Sprint(one, none, all, on, tidy); after != before {
			t.Errorf("%s became %s", before, after)
		}
	}
}
