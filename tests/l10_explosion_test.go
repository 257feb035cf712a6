package tests

import (
	"fmt"
	"math"
	"math/big"
	"math/rand"
	"slices"
	"strconv"
	"strings"
	"testing"

	"loop.example/g03407/impl"
)

// The largest numbers that the document allows.
const (
	mostWays     = 200
	mostWayLines = 12
)

func TestConstantsOfExplosion(t *testing.T) {
	if impl.MaxWays != mostWays {
		t.Errorf("MaxWays = %d", impl.MaxWays)
	}
}

// itemsFrom returns the catalog of a text such as A (B) [C]: a made item, a phantom and a bought item.
func itemsFrom(s string) []impl.Item {
	var l []impl.Item
	for _, word := range strings.Fields(s) {
		x := madeItem(strings.Trim(word, "()[]"))
		switch word[0] {
		case '(':
			x = impl.Item{Code: x.Code, Unit: "KG", Kind: impl.ItemPhantom}
		case '[':
			x = plainItem(x.Code)
		}
		l = append(l, x)
	}
	return l
}

// billsFrom returns bills of lines such as A>B*2, which are always in force.
func billsFrom(items string, lines string) bills {
	b := bills{catalog: itemsFrom(items)}
	for _, word := range strings.Fields(lines) {
		ends, quantity, _ := strings.Cut(word, "*")
		parent, part, _ := strings.Cut(ends, ">")
		x := lineFrom(parent, part)
		n, err := strconv.Atoi(quantity)
		if err != nil {
			panic("no line: " + word)
		}
		x.Quantity = n
		b.add(x, condTrue())
	}
	return b
}

// textOfNeeds returns a text such as B*2 C*6.
func textOfNeeds(l []impl.Need) string {
	var words []string
	for _, n := range l {
		words = append(words, n.Code+"*"+strconv.Itoa(n.Quantity))
	}
	return strings.Join(words, " ")
}

// way is a sequence of lines as their indices.
type way []int

// linesInForce returns the indices of the lines that are in force.
func (b bills) linesInForce(day int, choice []impl.Pick) []int {
	var l []int
	for i := range b.lines {
		if b.counts(i, day, choice) {
			l = append(l, i)
		}
	}
	return l
}

// waysByHand returns all ways from an item over some lines: those of one line, those of one line more, and so on, then sorted by their lines.
func (b bills) waysByHand(code string, inForce []int) []way {
	var all []way
	newest := []way{nil}
	for len(newest) > 0 {
		var longer []way
		for _, w := range newest {
			for _, i := range inForce {
				if b.lines[i].Parent == b.endOf(w, code) {
					longer = append(longer, append(slices.Clone(w), i))
				}
			}
		}
		all = append(all, longer...)
		newest = longer
	}
	slices.SortFunc(all, func(v, w way) int { return slices.Compare(v, w) })
	return all
}

// endOf returns the item to which a way from an item leads.
func (b bills) endOf(w way, code string) string {
	if len(w) == 0 {
		return code
	}
	return b.lines[w[len(w)-1]].Part
}

func (b bills) productOf(w way) *big.Int {
	product := big.NewInt(1)
	for _, i := range w {
		product.Mul(product, big.NewInt(int64(b.lines[i].Quantity)))
	}
	return product
}

func (b bills) isPhantom(code string) bool {
	for _, x := range b.catalog {
		if x.Code == code {
			return x.Kind == impl.ItemPhantom
		}
	}
	return false
}

// isAtOnce reports whether all items between the ends of a way are phantoms.
func (b bills) isAtOnce(w way) bool {
	for _, i := range w[1:] {
		if !b.isPhantom(b.lines[i].Parent) {
			return false
		}
	}
	return true
}

// sumsOf returns the sums of the products of some ways, by the items to which they lead.
func (b bills) sumsOf(ways []way) map[string]*big.Int {
	sums := map[string]*big.Int{}
	for _, w := range ways {
		part := b.endOf(w, "")
		if sums[part] == nil {
			sums[part] = new(big.Int)
		}
		sums[part].Add(sums[part], b.productOf(w))
	}
	return sums
}

// isTooMany reports whether a number is greater than MaxAmount.
func isTooMany(n *big.Int) bool { return n.Cmp(big.NewInt(mostAmount)) > 0 }

// needsByHand returns the needs of a quantity by such sums, with or without phantoms.
func (b bills) needsByHand(sums map[string]*big.Int, quantity int, phantoms bool) ([]impl.Need, bool) {
	if quantity < 0 || quantity > mostQuantity {
		return nil, false
	}
	var l []impl.Need
	for _, x := range b.catalog {
		if sums[x.Code] == nil {
			continue
		}
		n := new(big.Int).Mul(sums[x.Code], big.NewInt(int64(quantity)))
		if isTooMany(n) {
			return nil, false
		}
		if n.Sign() > 0 && (phantoms || x.Kind != impl.ItemPhantom) {
			l = append(l, impl.Need{Code: x.Code, Quantity: int(n.Int64())})
		}
	}
	return l, true
}

// productsByHand returns the products of the ways that lead to a part.
func (b bills) productsByHand(ways []way, part string) ([]int, bool) {
	var l []int
	for _, w := range ways {
		if b.endOf(w, "") != part {
			continue
		}
		product := b.productOf(w)
		if isTooMany(product) {
			return nil, false
		}
		l = append(l, int(product.Int64()))
	}
	return l, len(l) <= mostWays && len(b.lines) <= mostWayLines
}

// askedQuantities returns small quantities, the ends of the range, some beyond, and those at which some number of pieces reaches its limit.
func askedQuantities(sums map[string]*big.Int) []int {
	l := []int{math.MinInt, -1, 0, 1, 2, 7, mostQuantity, mostQuantity + 1, math.MaxInt}
	for _, sum := range sums {
		if n := new(big.Int).Quo(big.NewInt(mostAmount), sum); n.IsInt64() {
			l = append(l, int(n.Int64()), int(n.Int64())+1)
		}
	}
	slices.Sort(l)
	return slices.Compact(l)
}

// checkExplosion checks all functions of the chapter for an item on a day and for a choice.
func (b bills) checkExplosion(t *testing.T, code string, day int, choice []impl.Pick) {
	t.Helper()
	ways := b.waysByHand(code, b.linesInForce(day, choice))
	atOnce := b.sumsOf(slices.DeleteFunc(slices.Clone(ways), func(w way) bool { return !b.isAtOnce(w) }))
	all := b.sumsOf(ways)
	for _, quantity := range askedQuantities(all) {
		got, ok := impl.PartsOf(b.catalog, b.lines, code, quantity, day, choice)
		want, wantOk := b.needsByHand(atOnce, quantity, false)
		if ok != wantOk || ok && !slices.Equal(got, want) || !ok && len(got) != 0 {
			t.Errorf("%v: PartsOf %d %s on %d for %q is %v, %v, not %v, %v", b, quantity, code, day, choice, got, ok, want, wantOk)
		}
		got, ok = impl.Explosion(b.catalog, b.lines, code, quantity, day, choice)
		want, wantOk = b.needsByHand(all, quantity, true)
		if ok != wantOk || ok && !slices.Equal(got, want) || !ok && len(got) != 0 {
			t.Errorf("%v: Explosion of %d %s on %d for %q is %v, %v, not %v, %v", b, quantity, code, day, choice, got, ok, want, wantOk)
		}
	}
	for _, part := range b.catalog {
		b.checkPart(t, code, part.Code, ways, day, choice)
	}
}

// checkPart checks QuantityIn and WaysTo from an item, of which all ways are given, to a part.
func (b bills) checkPart(t *testing.T, code string, part string, ways []way, day int, choice []impl.Pick) {
	t.Helper()
	want, wantOk := 0, true
	if sum := b.sumsOf(ways)[part]; part == code {
		want = 1
	} else if sum != nil && isTooMany(sum) {
		wantOk = false
	} else if sum != nil {
		want = int(sum.Int64())
	}
	if got, ok := impl.QuantityIn(b.catalog, b.lines, code, part, day, choice); got != want || ok != wantOk {
		t.Errorf("%v: QuantityIn %s of %s on %d for %q is %d, %v, not %d, %v", b, code, part, day, choice, got, ok, want, wantOk)
	}
	products, wantOk := b.productsByHand(ways, part)
	if part == code {
		products = []int{1}
	}
	got, ok := impl.WaysTo(b.catalog, b.lines, code, part, day, choice)
	if ok != wantOk || ok && !slices.Equal(got, products) || !ok && len(got) != 0 {
		t.Errorf("%v: WaysTo from %s to %s on %d for %q is %v, %v, not %v, %v", b, code, part, day, choice, got, ok, products, wantOk)
	}
}

// checkAll checks all functions for all items.
func (b bills) checkAll(t *testing.T, day int, choice []impl.Pick) {
	t.Helper()
	for _, x := range b.catalog {
		b.checkExplosion(t, x.Code, day, choice)
	}
}

// checkNeeds checks what PartsOf and Explosion return for a quantity, as texts.
func (b bills) checkNeeds(t *testing.T, code string, quantity int, atOnce string, all string) {
	t.Helper()
	if got, ok := impl.PartsOf(b.catalog, b.lines, code, quantity, 5, nil); !ok || textOfNeeds(got) != atOnce {
		t.Errorf("%v: PartsOf %d %s is %v, %v, not %s", b, quantity, code, got, ok, atOnce)
	}
	if got, ok := impl.Explosion(b.catalog, b.lines, code, quantity, 5, nil); !ok || textOfNeeds(got) != all {
		t.Errorf("%v: Explosion of %d %s is %v, %v, not %s", b, quantity, code, got, ok, all)
	}
}

// checkFits checks whether PartsOf and Explosion succeed.
func (b bills) checkFits(t *testing.T, code string, quantity int, atOnce bool, all bool) {
	t.Helper()
	if got, ok := impl.PartsOf(b.catalog, b.lines, code, quantity, 5, nil); ok != atOnce || !ok && len(got) != 0 {
		t.Errorf("%v: PartsOf %d %s is %v, %v", b, quantity, code, got, ok)
	}
	if got, ok := impl.Explosion(b.catalog, b.lines, code, quantity, 5, nil); ok != all || !ok && len(got) != 0 {
		t.Errorf("%v: Explosion of %d %s is %v, %v", b, quantity, code, got, ok)
	}
}

// checkTo checks what QuantityIn and WaysTo return.
func (b bills) checkTo(t *testing.T, code string, part string, quantity int, ways ...int) {
	t.Helper()
	if got, ok := impl.QuantityIn(b.catalog, b.lines, code, part, 5, nil); !ok || got != quantity {
		t.Errorf("%v: QuantityIn %s of %s is %d, %v, not %d", b, code, part, got, ok, quantity)
	}
	if got, ok := impl.WaysTo(b.catalog, b.lines, code, part, 5, nil); !ok || !slices.Equal(got, ways) {
		t.Errorf("%v: WaysTo from %s to %s is %v, %v, not %v", b, code, part, got, ok, ways)
	}
}

// checkNoTo checks whether QuantityIn and WaysTo fail.
func (b bills) checkNoTo(t *testing.T, code string, part string, quantityFails bool, waysFail bool) {
	t.Helper()
	if got, ok := impl.QuantityIn(b.catalog, b.lines, code, part, 5, nil); ok == quantityFails || !ok && got != 0 {
		t.Errorf("%v: QuantityIn %s of %s is %d, %v", b, code, part, got, ok)
	}
	if got, ok := impl.WaysTo(b.catalog, b.lines, code, part, 5, nil); ok == waysFail || !ok && len(got) != 0 {
		t.Errorf("%v: WaysTo from %s to %s is %v, %v", b, code, part, got, ok)
	}
}

// checkNothing checks that nothing is said of two codes on a day.
func checkNothing(t *testing.T, catalog []impl.Item, lines []impl.BillLine, code string, part string, day int) {
	t.Helper()
	where := func() string {
		return fmt.Sprintf("%.300s, %.300s, %q, %q", fmt.Sprint(catalog), fmt.Sprint(lines), code, part)
	}
	for _, choice := range [][]impl.Pick{nil, picksOf("LID=X")} {
		if n, ok := impl.QuantityIn(catalog, lines, code, part, day, choice); ok || n != 0 {
			t.Errorf("%s: QuantityIn is %d, %v", where(), n, ok)
		}
		if l, ok := impl.WaysTo(catalog, lines, code, part, day, choice); ok || len(l) != 0 {
			t.Errorf("%s: WaysTo is %v, %v", where(), l, ok)
		}
	}
}

// checkNoParts checks that nothing is said of what an item takes on a day.
func checkNoParts(t *testing.T, catalog []impl.Item, lines []impl.BillLine, code string, day int) {
	t.Helper()
	where := func() string { return fmt.Sprintf("%.300s, %.300s, %q", fmt.Sprint(catalog), fmt.Sprint(lines), code) }
	for _, quantity := range []int{0, 1, 4, mostQuantity, mostQuantity + 1} {
		for _, choice := range [][]impl.Pick{nil, picksOf("LID=X")} {
			if l, ok := impl.PartsOf(catalog, lines, code, quantity, day, choice); ok || len(l) != 0 {
				t.Errorf("%s: PartsOf is %v, %v", where(), l, ok)
			}
			if l, ok := impl.Explosion(catalog, lines, code, quantity, day, choice); ok || len(l) != 0 {
				t.Errorf("%s: Explosion is %v, %v", where(), l, ok)
			}
		}
	}
}

// checkNoExplosion checks that nothing at all is said of bills that are not valid.
func checkNoExplosion(t *testing.T, catalog []impl.Item, lines []impl.BillLine) {
	t.Helper()
	for _, day := range []int{0, 15, mostDay, -1} {
		for _, code := range []string{"A", "B", ""} {
			checkNoParts(t, catalog, lines, code, day)
			for _, part := range []string{"A", "B", "C", ""} {
				checkNothing(t, catalog, lines, code, part, day)
			}
		}
	}
}

// gadget has two phantoms, an item below both and beside them, and a bought part of several items.
func gadget() bills {
	return billsFrom("A (B) C (D) [E]", "A>B*2 A>C*1 B>C*3 B>D*1 D>E*4 C>E*5 A>E*7")
}

func TestExplosionCases(t *testing.T) {
	b := gadget()
	b.checkAll(t, 5, nil)
	b.checkNeeds(t, "A", 1, "C*7 E*15", "B*2 C*7 D*2 E*50")
	b.checkNeeds(t, "A", 10, "C*70 E*150", "B*20 C*70 D*20 E*500")
	b.checkNeeds(t, "B", 3, "C*9 E*12", "C*9 D*3 E*57")
	b.checkNeeds(t, "C", 6, "E*30", "E*30")
	b.checkNeeds(t, "D", 6, "E*24", "E*24")
	b.checkNeeds(t, "E", 6, "", "")
	b.checkTo(t, "A", "E", 50, 30, 8, 5, 7)
	b.checkTo(t, "A", "C", 7, 6, 1)
	b.checkTo(t, "A", "D", 2, 2)
	b.checkTo(t, "B", "E", 19, 15, 4)
	b.checkTo(t, "C", "B", 0)
	b.checkTo(t, "E", "A", 0)
	b.checkTo(t, "C", "D", 0)
}

func TestExplosionWithoutLines(t *testing.T) {
	for _, b := range []bills{billsFrom("A", ""), billsFrom("[A]", ""), billsFrom("(A)", ""), billsFrom("A (B) [C]", ""), alwaysBills(manyItems(mostItems), nil)} {
		b.checkAll(t, 5, nil)
		for _, x := range b.catalog {
			b.checkNeeds(t, x.Code, 9, "", "")
			b.checkTo(t, x.Code, x.Code, 1, 1)
		}
	}
	b := billsFrom("A B C D E", "B>D*2")
	b.checkAll(t, 5, nil)
	for _, code := range []string{"A", "C", "D", "E"} {
		b.checkNeeds(t, code, 9, "", "")
		b.checkTo(t, code, "B", 0)
	}
	checkNoExplosion(t, nil, nil)
	checkNoExplosion(t, []impl.Item{}, []impl.BillLine{})
}

// TestPhantomBelowPhantom has phantoms that are taken apart and give phantoms.
func TestPhantomBelowPhantom(t *testing.T) {
	b := billsFrom("A (B) (C) D", "A>B*2 B>C*3 C>D*5")
	b.checkAll(t, 5, nil)
	b.checkNeeds(t, "A", 1, "D*30", "B*2 C*6 D*30")
	b.checkNeeds(t, "B", 1, "D*15", "C*3 D*15")
	b.checkNeeds(t, "C", 7, "D*35", "D*35")
	b.checkTo(t, "A", "D", 30, 30)

	// both phantoms have parts of their own, and one in common
	b = billsFrom("A (B) (C) D [E] [F]", "A>B*2 B>C*3 C>D*5 B>D*1 B>E*4 C>F*6 D>F*9")
	b.checkAll(t, 5, nil)
	b.checkNeeds(t, "A", 1, "D*32 E*8 F*36", "B*2 C*6 D*32 E*8 F*324")

	// a phantom below a made item below a phantom
	b = billsFrom("A (B) C (D) [E]", "A>B*2 B>C*3 C>D*5 D>E*7")
	b.checkAll(t, 5, nil)
	b.checkNeeds(t, "A", 1, "C*6", "B*2 C*6 D*30 E*210")
	b.checkNeeds(t, "C", 6, "E*210", "D*30 E*210")

	// one phantom below two others and below the item itself
	b = billsFrom("A (B) (C) (D) [E]", "A>B*2 A>C*3 B>D*5 C>D*7 A>D*1 D>E*2")
	b.checkAll(t, 5, nil)
	b.checkNeeds(t, "A", 1, "E*64", "B*2 C*3 D*32 E*64")
	b.checkTo(t, "A", "E", 64, 20, 42, 2)
}

// TestChainsOfPhantoms has phantoms below phantoms up to the length of a catalog, and from each on an item that is none.
func TestChainsOfPhantoms(t *testing.T) {
	names := strings.Fields(allNames)
	for size := 2; size <= mostItems; size++ {
		b := alwaysBills(madeItems(strings.Join(names[:size], " ")), chainOf(names[:size]...))
		product := 1
		for i := range b.lines {
			b.lines[i].Quantity = 1 + i%3
			product *= b.lines[i].Quantity
		}
		for i := 1; i < size-1; i++ {
			b.catalog[i] = impl.Item{Code: names[i], Unit: "PC", Kind: impl.ItemPhantom}
		}
		b.checkAll(t, 5, nil)
		if got, ok := impl.PartsOf(b.catalog, b.lines, "A", 2, 0, nil); !ok || textOfNeeds(got) != names[size-1]+"*"+strconv.Itoa(2*product) {
			t.Errorf("%v: PartsOf is %v, %v", b, got, ok)
		}
		for i := 1; i < size-1; i++ {
			c := bills{catalog: slices.Clone(b.catalog), lines: b.lines, when: b.when}
			c.catalog[i] = madeItem(names[i])
			c.checkAll(t, 5, nil)
			if got, ok := impl.PartsOf(c.catalog, c.lines, "A", 2, 0, nil); !ok || len(got) != 1 || got[0].Code != names[i] {
				t.Errorf("%v: PartsOf with the made item %s is %v, %v", c, names[i], got, ok)
			}
		}
	}
}

// TestPhantomsWithoutParts has phantoms of which nothing is taken at once, but the phantoms are there.
func TestPhantomsWithoutParts(t *testing.T) {
	b := billsFrom("A (B) (C) D", "A>B*2 A>D*1 B>C*3")
	b.checkAll(t, 5, nil)
	b.checkNeeds(t, "A", 4, "D*4", "B*8 C*24 D*4")
	b.checkNeeds(t, "B", 4, "", "C*12")
	b.checkNeeds(t, "C", 4, "", "")
	b.checkTo(t, "A", "C", 6, 6)
	// a phantom whose lines are not in force
	b = billsFrom("A (B) C", "A>B*2 B>C*3")
	b.lines[1].From = 6
	b.checkAll(t, 5, nil)
	b.checkNeeds(t, "A", 4, "", "B*8")
	b.checkTo(t, "A", "C", 0)
}

// TestPhantomAskedFor has phantoms that are asked for themselves: it is no matter what is above them.
func TestPhantomAskedFor(t *testing.T) {
	b := billsFrom("A B (C) (D) E F", "A>B*2 B>C*3 C>D*5 D>E*7 C>F*1 A>C*4")
	b.checkAll(t, 5, nil)
	b.checkNeeds(t, "C", 1, "E*35 F*1", "D*5 E*35 F*1")
	b.checkNeeds(t, "D", 100, "E*700", "E*700")
	b.checkNeeds(t, "A", 1, "B*2 E*140 F*4", "B*2 C*10 D*50 E*350 F*10")
	b.checkTo(t, "C", "C", 1, 1)
	b.checkTo(t, "C", "A", 0)
}

// TestExplosionOfNoBills has catalogs and lines that are not valid, each for one reason.
func TestExplosionOfNoBills(t *testing.T) {
	lines := linesFrom("A>B B>C")
	for _, x := range noItems() {
		catalog := madeItems("A B C D")
		catalog[3] = x
		if impl.IsCode(x.Code) {
			catalog[3].Code = "D"
		}
		checkNoParts(t, catalog, lines, "A", 5)
		checkNothing(t, catalog, lines, "A", "C", 5)
		checkNothing(t, catalog, nil, "A", "A", 5)
	}
	for _, names := range []string{"B A C", "A A B C", "A B C C", "A C B", allNames + " M"} {
		checkNoExplosion(t, madeItems(names), lines)
		checkNoExplosion(t, madeItems(names), nil)
	}
	catalog := itemsFrom("A B [C] D E")
	for _, s := range []string{"A>A", "D>D", "A>B B>A", "A>B D>E E>D", "A>B B>D D>A", "C>D", "A>C C>E", "A>F", "F>A", "F>G", ">A", "A>", "a>B"} {
		checkNoExplosion(t, catalog, linesFrom(s))
	}
	checkNoExplosion(t, catalog, slices.Repeat(linesFrom("A>B"), mostLines+1))
	for _, change := range spoilingChanges() {
		for _, lines := range linesWith(change) {
			checkNoExplosion(t, catalog, lines)
		}
	}
	// a circle that is never in force, far from what is asked for
	never := linesFrom("A>B D>E E>D")
	never[2].When = condNot(condTrue()).list()
	checkNoExplosion(t, catalog, never)
	alwaysBills(catalog, never[:2]).checkAll(t, 5, nil)
}

// TestExplosionOfNoItems asks for codes and parts that are no items.
func TestExplosionOfNoItems(t *testing.T) {
	for _, b := range []bills{gadget(), billsFrom("A (B)", "A>B*2"), billsFrom("A", ""), {}} {
		for _, code := range append(noCodes(), "F", "AA", "A-", "PC", "KG", "NONE") {
			for _, day := range []int{0, 5, mostDay, -1, mostDay + 1} {
				checkNoParts(t, b.catalog, b.lines, code, day)
				checkNothing(t, b.catalog, b.lines, code, code, day)
				for _, x := range b.catalog {
					checkNothing(t, b.catalog, b.lines, code, x.Code, day)
					checkNothing(t, b.catalog, b.lines, x.Code, code, day)
				}
			}
		}
	}
}

// TestSameCodeAndPart asks how many of an item are in itself.
func TestSameCodeAndPart(t *testing.T) {
	many := billsFrom("A B C D E", "A>B*1000 B>C*1000 C>D*1000 D>E*1000")
	for _, b := range []bills{gadget(), many, billsFrom("A", ""), billsFrom("(A) B", "A>B*2")} {
		for _, x := range b.catalog {
			for _, day := range []int{math.MinInt, -1, 0, 500, mostDay, mostDay + 1, math.MaxInt} {
				if n, ok := impl.QuantityIn(b.catalog, b.lines, x.Code, x.Code, day, nil); !ok || n != 1 {
					t.Errorf("%v: QuantityIn %s of itself is %d, %v", b, x.Code, n, ok)
				}
				if l, ok := impl.WaysTo(b.catalog, b.lines, x.Code, x.Code, day, nil); !ok || !slices.Equal(l, []int{1}) {
					t.Errorf("%v: WaysTo from %s to itself is %v, %v", b, x.Code, l, ok)
				}
			}
		}
	}
}

// TestNoWays has items and parts that no way joins, and a number that is too large elsewhere.
func TestNoWays(t *testing.T) {
	b := billsFrom("A B C D E F G H", "A>B*2 C>D*1000 D>E*1000 E>F*1000 F>G*1000 C>B*3")
	b.checkAll(t, 5, nil)
	for _, s := range []string{"A C", "A D", "A G", "B A", "D B", "G C", "G F", "H A", "A H", "C A", "C H", "E B"} {
		code, part, _ := strings.Cut(s, " ")
		b.checkTo(t, code, part, 0)
	}
	b.checkTo(t, "C", "B", 3, 3)
	b.checkNoTo(t, "C", "G", true, true)
	b.checkFits(t, "A", mostQuantity, true, true)
	b.checkFits(t, "C", 1, true, false)
}

func TestQuantitiesOfExplosion(t *testing.T) {
	b := gadget()
	for _, x := range b.catalog {
		for _, quantity := range []int{-1, -2, -mostQuantity, mostQuantity + 1, mostQuantity + 2, mostAmount, mostAmount + 1} {
			b.checkFits(t, x.Code, quantity, false, false)
		}
		for _, quantity := range farNumbers() {
			b.checkFits(t, x.Code, quantity, false, false)
		}
		for _, quantity := range []int{0, 1, 2, 99, mostQuantity - 1, mostQuantity} {
			b.checkFits(t, x.Code, quantity, true, true)
		}
		b.checkNeeds(t, x.Code, 0, "", "")
	}
	b.checkNeeds(t, "A", mostQuantity, "C*700000 E*1500000", "B*200000 C*700000 D*200000 E*5000000")
	// of nothing there are never too many
	names := strings.Fields(allNames)
	b = alwaysBills(madeItems(allNames), chainOf(names...))
	for i := range b.lines {
		b.lines[i].Quantity = mostPer
		b.catalog[i].Kind, b.catalog[i].Lead = impl.ItemPhantom, 0
	}
	b.checkNeeds(t, "A", 0, "", "")
	b.checkFits(t, "A", 1, false, false)
	b.checkFits(t, "A", mostQuantity, false, false)
	b.checkAll(t, 5, nil)
}

// TestMostPieces has numbers of pieces at MaxAmount and just beyond, of items, phantoms, and items far below.
func TestMostPieces(t *testing.T) {
	for _, kinds := range []string{"A B C D", "A (B) (C) (D)", "(A) (B) (C) D", "A B C (D)", "A (B) C D", "A B (C) [D]", "A (B) C (D)"} {
		full := billsFrom(kinds, "A>B*1000 B>C*1000 C>D*1000")
		over := billsFrom(kinds, "A>B*1000 B>C*1000 C>D*1000 A>D*1")
		full.checkAll(t, 5, nil)
		over.checkAll(t, 5, nil)
		full.checkFits(t, "A", 1, true, true)
		full.checkFits(t, "B", 1000, true, true)
		isAtOnce := strings.Contains(kinds, "(B) (C)")
		over.checkFits(t, "A", 1, !isAtOnce, false)
		full.checkFits(t, "A", 2, !isAtOnce, false)
		full.checkFits(t, "B", 1001, !strings.Contains(kinds, "(C)"), false)
		full.checkTo(t, "A", "D", mostAmount, mostAmount)
		over.checkNoTo(t, "A", "D", true, false)
	}
	full := billsFrom("A B [C]", "A>B*1000 B>C*10")
	full.checkNeeds(t, "A", mostQuantity, "B*100000000", "B*100000000 C*1000000000")
	over := billsFrom("A B [C]", "A>B*1000 B>C*10 A>C*1")
	over.checkFits(t, "A", mostQuantity, true, false)
	over.checkNeeds(t, "A", 99990, "B*99990000 C*99990", "B*99990000 C*999999990")
	over.checkFits(t, "A", 99991, true, false)
	// a phantom that is not in the result, and has no part
	phantom := billsFrom("A (B) (C)", "A>B*1000 B>C*1000 A>C*1")
	phantom.checkFits(t, "A", 999, true, true)
	phantom.checkFits(t, "A", 1000, false, false)
}

// TestFarBelow has one item far below of which there are too many, wherever it stands in the catalog.
func TestFarBelow(t *testing.T) {
	for _, far := range []string{"A", "E", "Z"} {
		for _, kind := range []string{"%s", "(%s)", "[%s]"} {
			items := strings.Fields("B C D F " + far)
			slices.Sort(items)
			catalog := strings.Replace(strings.Join(items, " "), far, fmt.Sprintf(kind, far), 1)
			b := billsFrom(catalog, "B>C*1000 C>D*1000 D>F*1000 F>"+far+"*2")
			b.checkAll(t, 5, nil)
			b.checkFits(t, "B", 1, true, false)
			b.checkFits(t, "C", 1, true, true)
			b.checkFits(t, "C", 500, true, true)
			b.checkFits(t, "C", 501, true, false)
			b.checkTo(t, "B", "F", mostAmount, mostAmount)
			b.checkNoTo(t, "B", far, true, true)
		}
	}
}

// TestNumbersAreNeverLost has products that are a power of 2 beyond all integers, so that nothing would be left of them.
func TestNumbersAreNeverLost(t *testing.T) {
	names := strings.Fields(allNames)
	for _, n := range []int{2, 16, 64, 128, 256, 512, 625, 999, mostPer} {
		for _, phantoms := range []bool{false, true} {
			b := alwaysBills(madeItems(allNames), chainOf(names...))
			for i := range b.lines {
				b.lines[i].Quantity = n
				if phantoms {
					b.catalog[i] = impl.Item{Code: names[i], Unit: "PC", Kind: impl.ItemPhantom}
				}
			}
			b.checkAll(t, 5, nil)
		}
	}
	b := alwaysBills(madeItems(allNames), slices.Concat(chainOf(names...), chainOf(names...)))
	for i := range b.lines {
		b.lines[i].Quantity = 256
	}
	b.lines = append(b.lines, lineFrom("A", "L"))
	b.when = append(b.when, condTrue())
	b.checkAll(t, 5, nil)
}

// TestExplosionInForce has lines with days and conditions.
func TestExplosionInForce(t *testing.T) {
	b := bills{catalog: itemsFrom("A (B) [C]")}
	early, late, other := lineFrom("A", "B"), lineFrom("A", "B"), lineFrom("A", "C")
	early.Quantity, early.Until = 2, 10
	late.Quantity, late.From, late.Until = 3, 10, 20
	other.Quantity, other.From = 5, mostDay
	b.add(early, condTrue())
	b.add(lineFrom("B", "C"), condNot(condIs("LID", "Y")))
	b.add(late, condIs("LID", "X"))
	b.add(other, condTrue())
	for _, s := range []string{"", "LID=X", "LID=Y", "LID=X LID=Y", "COLOR=X", "LID=X LID=X"} {
		for _, day := range b.askedDays() {
			b.checkAll(t, day, picksOf(s))
		}
	}
	for _, c := range []struct {
		day    int
		picks  string
		atOnce string
		all    string
	}{
		{0, "", "C*2", "B*2 C*2"}, {9, "LID=X", "C*2", "B*2 C*2"}, {10, "LID=X", "C*5", "B*5 C*5"}, {11, "LID=X", "C*3", "B*3 C*3"}, {20, "LID=X", "C*3", "B*3 C*3"},
		{21, "LID=X", "", ""}, {10, "LID=Y", "", "B*2"}, {10, "", "C*2", "B*2 C*2"}, {11, "", "", ""}, {10, "LID=X LID=Y", "", "B*5"}, {998, "LID=X", "", ""}, {999, "LID=X", "C*5", "C*5"},
		{-1, "LID=X", "", ""}, {1000, "LID=X", "", ""}, {math.MinInt, "LID=X", "", ""}, {math.MaxInt, "LID=X", "", ""},
	} {
		if l, ok := impl.PartsOf(b.catalog, b.lines, "A", 1, c.day, picksOf(c.picks)); !ok || textOfNeeds(l) != c.atOnce {
			t.Errorf("on %d for %q PartsOf is %v, %v", c.day, c.picks, l, ok)
		}
		if l, ok := impl.Explosion(b.catalog, b.lines, "A", 1, c.day, picksOf(c.picks)); !ok || textOfNeeds(l) != c.all {
			t.Errorf("on %d for %q Explosion is %v, %v", c.day, c.picks, l, ok)
		}
	}
}

// TestNoDaysOfExplosion asks on days on which nothing can be in force.
func TestNoDaysOfExplosion(t *testing.T) {
	b := gadget()
	for _, day := range noDays() {
		for _, x := range b.catalog {
			for _, y := range b.catalog {
				b.checkExplosion(t, x.Code, day, nil)
				n, ok := impl.QuantityIn(b.catalog, b.lines, x.Code, y.Code, day, nil)
				if l, k := impl.WaysTo(b.catalog, b.lines, x.Code, y.Code, day, nil); !ok || !k || len(l) != n || (n == 1) != (x.Code == y.Code) {
					t.Errorf("on %d there are %d %s in %s, and the ways %v", day, n, y.Code, x.Code, l)
				}
			}
		}
	}
}

// TestOtherLinesLeftOut has all sets of lines that are idle: what the others take is as without them.
func TestOtherLinesLeftOut(t *testing.T) {
	for set := range 1 << 7 {
		for _, idle := range []changedLine{
			func(x *impl.BillLine) { x.From = 6 }, func(x *impl.BillLine) { x.Until = 4 }, func(x *impl.BillLine) { x.When = condNot(condTrue()).list() },
		} {
			b, less := gadget(), bills{catalog: gadget().catalog}
			for i := range b.lines {
				if set>>i&1 == 1 {
					idle(&b.lines[i])
				} else {
					less.add(b.lines[i], condTrue())
				}
			}
			for _, x := range b.catalog {
				got, ok := impl.Explosion(b.catalog, b.lines, x.Code, 3, 5, nil)
				if want, _ := impl.Explosion(less.catalog, less.lines, x.Code, 3, 5, nil); !ok || !slices.Equal(got, want) {
					t.Errorf("%v: Explosion of %s is %v, %v, not %v", b.lines, x.Code, got, ok, want)
				}
				got, ok = impl.PartsOf(b.catalog, b.lines, x.Code, 3, 5, nil)
				if want, _ := impl.PartsOf(less.catalog, less.lines, x.Code, 3, 5, nil); !ok || !slices.Equal(got, want) {
					t.Errorf("%v: PartsOf %s is %v, %v, not %v", b.lines, x.Code, got, ok, want)
				}
			}
			less.checkAll(t, 5, nil)
		}
	}
}

// TestWaysOfDifferentLengths has an item that is reached over ways of one line up to five.
func TestWaysOfDifferentLengths(t *testing.T) {
	for _, kinds := range []string{"A B C D E F", "A (B) (C) (D) (E) F", "A (B) C (D) E F", "A B (C) (D) E (F)"} {
		b := billsFrom(kinds, "A>B*2 B>C*2 C>D*2 D>E*2 E>F*2 A>F*1 B>F*1 C>F*1 D>F*1")
		b.checkAll(t, 5, nil)
		b.checkTo(t, "A", "F", 47, 32, 8, 4, 2, 1)
		b = billsFrom(kinds, "A>F*1 A>B*2 B>F*1 B>C*2 C>F*1 C>D*2 D>F*1 D>E*2 E>F*2")
		b.checkAll(t, 5, nil)
		b.checkTo(t, "A", "F", 47, 1, 2, 4, 8, 32)
	}
}

// TestSameLineTwice has lines that are there several times: each one counts.
func TestSameLineTwice(t *testing.T) {
	b := billsFrom("A (B) C", "A>B*2 A>B*2 B>C*3 B>C*3")
	b.checkAll(t, 5, nil)
	b.checkNeeds(t, "A", 1, "C*24", "B*4 C*24")
	b.checkTo(t, "A", "C", 24, 6, 6, 6, 6)
	b = billsFrom("A B", strings.Repeat("A>B*1000 ", mostLines))
	b.checkAll(t, 5, nil)
	b.checkNeeds(t, "A", 2, "B*48000", "B*48000")
	b.checkFits(t, "A", 41666, true, true)
	b.checkFits(t, "A", 41667, false, false)
}

// checkSorted checks that needs ascend, with each code once and none of quantity 0.
func checkSorted(t *testing.T, l []impl.Need) {
	t.Helper()
	for i, n := range l {
		if n.Quantity < 1 || i > 0 && l[i-1].Code >= n.Code {
			t.Errorf("the needs are %v", l)
		}
	}
}

// TestOrderOfNeeds has lines and ways in all orders: the needs ascend.
func TestOrderOfNeeds(t *testing.T) {
	r := rand.New(rand.NewSource(10))
	for range 200 {
		b := fewBillsOfChance(r, 2+r.Intn(mostItems-1), r.Intn(mostLines+1))
		for _, x := range b.catalog {
			for _, day := range []int{0, 3, 5} {
				first, _ := impl.Explosion(b.catalog, b.lines, x.Code, 3, day, nil)
				atOnce, _ := impl.PartsOf(b.catalog, b.lines, x.Code, 3, day, nil)
				checkSorted(t, first)
				checkSorted(t, atOnce)
				again, _ := impl.Explosion(b.catalog, shuffled(r, b.lines), x.Code, 3, day, nil)
				if !slices.Equal(first, again) {
					t.Errorf("%v: Explosion of %s is %v or %v", b, x.Code, first, again)
				}
			}
		}
	}
}

// TestMostInOne has sums of ways at MaxAmount and just beyond, though no way is too large.
func TestMostInOne(t *testing.T) {
	for _, s := range []string{
		"A>B*1000 B>C*1000 C>D*500 C>D*500",
		"A>B*1000 B>C*1000 C>D*500 C>D*499 B>D*1000",
		"A>B*1000 B>C*1000 C>D*999 B>D*999 A>D*1000",
		"A>D*1 A>D*999 B>D*999 A>B*1000 C>D*999 B>C*1000",
		"A>B*1000 A>C*1000 B>C*999 C>D*1000",
		"A>B*1000 A>C*1000 B>C*998 B>D*1000 C>D*999 C>D*1",
	} {
		full := billsFrom("A B C D", s)
		full.checkAll(t, 5, nil)
		if n, ok := impl.QuantityIn(full.catalog, full.lines, "A", "D", 5, nil); !ok || n != mostAmount {
			t.Errorf("%s: QuantityIn is %d, %v", s, n, ok)
		}
		for _, other := range []string{s + " A>D*1", "A>D*1 " + s} {
			over := billsFrom("A B C D", other)
			over.checkAll(t, 5, nil)
			over.checkNoTo(t, "A", "D", true, false)
		}
	}
	b := billsFrom("A B C D", "A>B*1000 B>C*1000 C>D*500 C>D*500")
	b.checkTo(t, "A", "D", mostAmount, mostAmount/2, mostAmount/2)
}

// TestOrderOfWays has ways that begin with an earlier line first, whatever their lengths and products are.
func TestOrderOfWays(t *testing.T) {
	for s, want := range map[string][]int{
		"A>B*2 A>C*3 B>D*5 C>D*7":                     {10, 21},
		"A>C*3 A>B*2 B>D*5 C>D*7":                     {21, 10},
		"C>D*7 B>D*5 A>C*3 A>B*2":                     {21, 10},
		"B>D*5 B>D*7 A>B*3 A>B*2":                     {15, 21, 10, 14},
		"A>B*3 B>D*7 A>B*2 B>D*5":                     {21, 15, 14, 10},
		"A>D*1 A>B*2 B>D*3":                           {1, 6},
		"A>B*2 A>D*1 B>D*3":                           {6, 1},
		"B>D*3 A>D*1 A>B*2":                           {1, 6},
		"A>B*2 B>C*2 C>D*2 B>D*3 A>D*5 A>C*7":         {8, 6, 5, 14},
		"A>C*7 A>D*5 B>D*3 C>D*2 B>C*2 A>B*2":         {14, 5, 6, 8},
		"B>C*2 A>E*9 A>B*5 A>C*1 C>D*4 E>C*1 B>E*2":   {36, 40, 40, 4},
		"E>D*9 A>E*1 A>E*1 E>C*1 C>D*2 C>B*1":         {9, 2, 9, 2},
		"A>B*1 C>D*2 A>B*1 B>C*3 B>C*5":               {6, 10, 6, 10},
		"A>B*1000 B>C*1000 C>E*1000 B>E*1000 A>D*9":   {9},
		"A>B*1000 B>C*1000 C>E*1000 E>F*1000 A>D*9":   {9},
		"A>E*2 E>F*2 A>C*2 C>F*2 B>D*2":               nil,
		"A>B*1000 B>C*1000 C>D*1000 D>E*1000 E>F*999": {mostAmount},
	} {
		b := billsFrom("A B C D E F", s)
		b.checkAll(t, 5, nil)
		if got, ok := impl.WaysTo(b.catalog, b.lines, "A", "D", 5, nil); !ok || !slices.Equal(got, want) {
			t.Errorf("%s: WaysTo is %v, %v, not %v", s, got, ok, want)
		}
	}
}

// TestLinesOfWays has 12 lines and 13 lines in all, of which some are not in force.
func TestLinesOfWays(t *testing.T) {
	for n := range mostLines + 1 {
		for idle := range n + 1 {
			b := bills{catalog: itemsFrom("A B C")}
			for i := range n {
				x := lineFrom("A", "B")
				x.Quantity = i + 1
				if i < idle {
					x.Until = 4
				}
				b.add(x, condTrue())
			}
			l, ok := impl.WaysTo(b.catalog, b.lines, "A", "B", 5, nil)
			if ok != (n <= 12) || ok && len(l) != n-idle || !ok && len(l) != 0 {
				t.Errorf("with %d lines, %d of them idle, WaysTo is %v, %v", n, idle, l, ok)
			}
			l, ok = impl.WaysTo(b.catalog, b.lines, "B", "B", 5, nil)
			if ok != (n <= 12) || ok && !slices.Equal(l, []int{1}) || !ok && len(l) != 0 {
				t.Errorf("with %d lines WaysTo from B to B is %v, %v", n, l, ok)
			}
			l, ok = impl.WaysTo(b.catalog, b.lines, "A", "C", 5, nil)
			if ok != (n <= 12) || len(l) != 0 {
				t.Errorf("with %d lines WaysTo from A to C is %v, %v", n, l, ok)
			}
			if got, ok := impl.QuantityIn(b.catalog, b.lines, "A", "B", 5, nil); !ok || got != (n*(n+1)-idle*(idle+1))/2 {
				t.Errorf("with %d lines, %d of them idle, QuantityIn is %d, %v", n, idle, got, ok)
			}
		}
	}
}

// TestMostWays has as many ways as 12 lines allow, which are fewer than MaxWays: three lines each between five items.
func TestMostWays(t *testing.T) {
	b := billsFrom("A B C D E", "A>B*2 A>B*3 A>B*5 B>C*7 B>C*11 B>C*13 C>D*17 C>D*19 C>D*23 D>E*29 D>E*31 D>E*37")
	l, ok := impl.WaysTo(b.catalog, b.lines, "A", "E", 5, nil)
	if !ok || len(l) != 81 || l[0] != 2*7*17*29 || l[1] != 2*7*17*31 || l[3] != 2*7*19*29 || l[80] != 5*13*23*37 {
		t.Errorf("WaysTo is %v, %v", l, ok)
	}
	b.checkAll(t, 5, nil)
	for _, s := range []string{
		"A>B*2 A>B*3 A>B*5 A>B*1 B>C*7 B>C*11 B>C*13 B>C*1 C>D*17 C>D*19 C>D*23 C>D*1",
		"A>B*1 A>B*2 B>C*1 B>C*2 C>D*1 C>D*2 D>E*1 D>E*2 E>F*1 E>F*2 F>G*1 F>G*2",
		"A>B*1 A>B*2 A>B*3 A>B*4 A>B*5 A>B*6 B>C*1 B>C*2 B>C*3 B>C*4 B>C*5 B>C*6",
	} {
		b := billsFrom("A B C D E F G", s)
		if len(b.lines) != mostWayLines {
			t.Errorf("%v: %d lines", b, len(b.lines))
		}
		b.checkAll(t, 5, nil)
		b.lines = shuffled(rand.New(rand.NewSource(12)), b.lines)
		b.checkAll(t, 5, nil)
	}
}

// TestMostAlongWays has products at MaxAmount and just beyond: one way that is too large is enough, but only if it leads to the part.
func TestMostAlongWays(t *testing.T) {
	for s, want := range map[string]int{
		"A>B*1000 B>C*1000 C>E*1000": mostAmount,
		// the next lower and the next higher one of all products
		"A>B*990 B>C*137 C>D*101 D>E*73": 999999990,
		"A>B*981 B>C*872 C>D*167 D>E*7":  1000000008,
		"A>B*7 B>C*167 C>D*872 D>E*981":  1000000008,
	} {
		b := billsFrom("A B C D E", s)
		b.checkAll(t, 5, nil)
		if want > mostAmount {
			b.checkNoTo(t, "A", "E", true, true)
		} else {
			b.checkTo(t, "A", "E", want, want)
		}
	}
	b := billsFrom("A B C D", "A>B*1000 B>C*1000 C>D*1000 A>D*3")
	b.checkNoTo(t, "A", "D", true, false)
	if l, ok := impl.WaysTo(b.catalog, b.lines, "A", "D", 5, nil); !ok || !slices.Equal(l, []int{mostAmount, 3}) {
		t.Errorf("WaysTo is %v, %v", l, ok)
	}
	long := "A>B*1000 B>C*1000 C>D*1000 D>E*1000"
	for _, s := range []string{long, "A>E*1 " + long, long + " A>E*1", long + " A>C*1 B>E*2", "A>B*2 B>C*1000 C>D*1000 D>E*1000", "A>B*1000 B>C*1000 C>D*1000 D>E*2"} {
		b := billsFrom("A B C D E", s)
		b.checkAll(t, 5, nil)
		b.checkNoTo(t, "A", "E", true, true)
	}
	b = billsFrom("A B C D E F", long+" A>F*6 C>F*7")
	b.checkAll(t, 5, nil)
	b.checkTo(t, "A", "F", 7000006, 7000000, 6)
}

// fewBillsOfChance returns valid bills by chance with small quantities, so that few numbers are too large.
func fewBillsOfChance(r *rand.Rand, items int, lines int) bills {
	b := billsOfChance(r, items, lines)
	for i := range b.lines {
		b.lines[i].Quantity = 1 + r.Intn(4)
		if r.Intn(3) > 0 {
			b.lines[i].From, b.lines[i].Until = 0, mostDay
		}
	}
	return b
}

func TestExplosionOfChance(t *testing.T) {
	r := rand.New(rand.NewSource(101))
	for i := range 150 {
		ofChance := billsOfChance
		if i%2 == 0 {
			ofChance = fewBillsOfChance
		}
		b := ofChance(r, 2+r.Intn(mostItems-1), r.Intn(mostLines+1))
		if i%3 == 0 {
			b.lines = b.lines[:min(len(b.lines), mostWayLines)]
			b.when = b.when[:len(b.lines)]
		}
		choices := someChoices()
		for _, day := range []int{0, 2, 4, 6} {
			b.checkAll(t, day, choices[r.Intn(len(choices))])
		}
	}
}

// TestSmallExplosions goes through all lines from each of four items to the later ones, and all kinds of the items.
func TestSmallExplosions(t *testing.T) {
	links := []string{"A>B*2", "A>C*3", "A>D*5", "B>C*7", "B>D*11", "C>D*13"}
	for kinds := range 1 << 4 {
		var items []string
		for i, code := range strings.Fields("A B C D") {
			if kinds>>i&1 == 1 {
				code = "(" + code + ")"
			}
			items = append(items, code)
		}
		for set := range 1 << 6 {
			var lines []string
			for i, s := range links {
				if set>>i&1 == 1 {
					lines = append(lines, s)
				}
			}
			billsFrom(strings.Join(items, " "), strings.Join(lines, " ")).checkAll(t, 5, nil)
		}
	}
}

// quantityOf returns the quantity of a code in a list of needs.
func quantityOf(l []impl.Need, code string) int {
	for _, n := range l {
		if n.Code == code {
			return n.Quantity
		}
	}
	return 0
}

// checkAllRoads checks that downwards, upwards and along all ways one number of a part in an item comes out.
func (b bills) checkAllRoads(t *testing.T, code string, part string, day int, choice []impl.Pick) {
	t.Helper()
	want, ok := impl.QuantityIn(b.catalog, b.lines, code, part, day, choice)
	if !ok {
		t.Errorf("%v: no QuantityIn %s of %s", b, code, part)
	}
	if code == part {
		return
	}
	downwards, upwards, along := 0, 0, 0
	for _, x := range impl.LinesOf(b.catalog, b.lines, code, day, choice) {
		n, _ := impl.QuantityIn(b.catalog, b.lines, x.Part, part, day, choice)
		downwards += x.Quantity * n
	}
	for _, parent := range impl.ParentsOf(b.catalog, b.lines, part, day, choice) {
		n, _ := impl.QuantityIn(b.catalog, b.lines, code, parent, day, choice)
		for _, x := range impl.LinesOf(b.catalog, b.lines, parent, day, choice) {
			if x.Part == part {
				upwards += n * x.Quantity
			}
		}
	}
	ways, ok := impl.WaysTo(b.catalog, b.lines, code, part, day, choice)
	for _, n := range ways {
		along += n
	}
	needs, k := impl.Explosion(b.catalog, b.lines, code, 1, day, choice)
	if downwards != want || upwards != want || along != want || quantityOf(needs, part) != want || !ok || !k {
		t.Errorf("%v: of %s in %s there are %d, downwards %d, upwards %d, along all ways %d, by Explosion %v", b, part, code, want, downwards, upwards, along, needs)
	}
}

func TestAllRoads(t *testing.T) {
	r := rand.New(rand.NewSource(102))
	for range 150 {
		b := fewBillsOfChance(r, 2+r.Intn(mostItems-1), r.Intn(mostWayLines+1))
		choices := someChoices()
		choice, day := choices[r.Intn(len(choices))], r.Intn(7)
		for _, x := range b.catalog {
			for _, y := range b.catalog {
				b.checkAllRoads(t, x.Code, y.Code, day, choice)
			}
		}
	}
}

// timesNeeds returns needs that are n times as many.
func timesNeeds(l []impl.Need, n int) []impl.Need {
	var times []impl.Need
	for _, x := range l {
		times = append(times, impl.Need{Code: x.Code, Quantity: n * x.Quantity})
	}
	return times
}

// TestTwiceAsMany has needs that grow with the quantity.
func TestTwiceAsMany(t *testing.T) {
	r := rand.New(rand.NewSource(103))
	for range 150 {
		b := fewBillsOfChance(r, 2+r.Intn(mostItems-1), r.Intn(mostWayLines+1))
		day := r.Intn(7)
		for _, x := range b.catalog {
			one, ok := impl.Explosion(b.catalog, b.lines, x.Code, 1, day, nil)
			oneAtOnce, k := impl.PartsOf(b.catalog, b.lines, x.Code, 1, day, nil)
			if !ok || !k {
				t.Errorf("%v: nothing for one %s", b, x.Code)
			}
			for _, n := range []int{2, 3, 5, 6, 10, 99} {
				many, ok := impl.Explosion(b.catalog, b.lines, x.Code, n, day, nil)
				atOnce, k := impl.PartsOf(b.catalog, b.lines, x.Code, n, day, nil)
				if !ok || !k || !slices.Equal(many, timesNeeds(one, n)) || !slices.Equal(atOnce, timesNeeds(oneAtOnce, n)) {
					t.Errorf("%v: one %s takes %v and %v, but %d take %v and %v", b, x.Code, one, oneAtOnce, n, many, atOnce)
				}
			}
		}
	}
}

// TestStepByStep has everything that an item takes as what it takes at once, and what that takes.
func TestStepByStep(t *testing.T) {
	r := rand.New(rand.NewSource(104))
	for range 150 {
		b := fewBillsOfChance(r, 2+r.Intn(mostItems-1), r.Intn(mostWayLines+1))
		day := r.Intn(7)
		for _, x := range b.catalog {
			sums := map[string]int{}
			atOnce, ok := impl.PartsOf(b.catalog, b.lines, x.Code, 3, day, nil)
			for _, n := range atOnce {
				if b.isPhantom(n.Code) {
					t.Errorf("%v: the phantom %s is taken at once", b, n.Code)
				}
				sums[n.Code] += n.Quantity
				below, k := impl.Explosion(b.catalog, b.lines, n.Code, n.Quantity, day, nil)
				for _, m := range below {
					sums[m.Code] += m.Quantity
				}
				ok = ok && k
			}
			all, k := impl.Explosion(b.catalog, b.lines, x.Code, 3, day, nil)
			for _, y := range b.catalog {
				if !ok || !k || !b.isPhantom(y.Code) && sums[y.Code] != quantityOf(all, y.Code) {
					t.Errorf("%v: %s takes %v at once and %v in all, but step by step %d %s", b, x.Code, atOnce, all, sums[y.Code], y.Code)
				}
			}
		}
	}
}

// useExplosion calls all functions of the chapter, returns what they return as a text, and overwrites it.
func (b bills) useExplosion(code string, part string, day int, picks []impl.Pick) string {
	atOnce, ok1 := impl.PartsOf(b.catalog, b.lines, code, 4, day, picks)
	all, ok2 := impl.Explosion(b.catalog, b.lines, code, 4, day, picks)
	n, ok3 := impl.QuantityIn(b.catalog, b.lines, code, part, day, picks)
	ways, ok4 := impl.WaysTo(b.catalog, b.lines, code, part, day, picks)
	text := fmt.Sprint(atOnce, ok1, all, ok2, n, ok3, ways, ok4)
	for _, l := range [][]impl.Need{atOnce, all} {
		l = l[:cap(l)]
		for i := range l {
			l[i] = impl.Need{Code: "CHANGED", Quantity: -7}
		}
	}
	ways = ways[:cap(ways)]
	for i := range ways {
		ways[i] = -7
	}
	return text
}

func TestExplosionChangesNothing(t *testing.T) {
	b := spareBills()
	b.catalog[1] = impl.Item{Code: "B", Unit: "PC", Kind: impl.ItemPhantom}
	b.catalog[2] = impl.Item{Code: "C", Unit: "PC", Kind: impl.ItemPhantom}
	// the idle lines between the others could be closed up
	b.lines[1].From, b.lines[3].Until = 600, 400
	picks := picksOf("LID=X COLOR=RED LID=Y")
	before := b.textOfAll(picks)
	for _, code := range []string{"A", "B", "C", "D", "SPARE", ""} {
		for _, part := range []string{"A", "B", "C", "D", "SPARE", ""} {
			for _, day := range []int{-1, 0, 500, 600, mostDay, mostDay + 1} {
				first := b.useExplosion(code, part, day, picks[:2])
				second := b.useExplosion(code, part, day, picks[:2])
				if first != second {
					t.Errorf("first %s, then %s", first, second)
				}
				if after := b.textOfAll(picks); after != before {
					t.Fatalf("%s became %s", before, after)
				}
			}
		}
	}
	// bills that are not valid stay too
	b.lines = b.lines[:cap(b.lines)]
	if b.lines[6].Parent != "SPARE" || !strings.HasPrefix(b.useExplosion("A", "D", 0, picks), "[] false") {
		t.Error("the spare line is not there")
	}
	if after := b.textOfAll(picks); after != before {
		t.Errorf("%s became %s", before, after)
	}
}

// TestResultsOfExplosionAreNew keeps the results of one call while those of the next ones are overwritten.
func TestResultsOfExplosionAreNew(t *testing.T) {
	b := gadget()
	for _, x := range b.catalog {
		atOnce, _ := impl.PartsOf(b.catalog, b.lines, x.Code, 4, 5, nil)
		all, _ := impl.Explosion(b.catalog, b.lines, x.Code, 4, 5, nil)
		same, _ := impl.WaysTo(b.catalog, b.lines, x.Code, x.Code, 5, nil)
		ways, _ := impl.WaysTo(b.catalog, b.lines, x.Code, "E", 5, nil)
		before := fmt.Sprint(atOnce, all, same, ways)
		for _, y := range b.catalog {
			b.useExplosion(x.Code, y.Code, 5, nil)
			b.useExplosion(y.Code, x.Code, 5, nil)
			if after := fmt.Sprint(atOnce, all, same, ways); after != before {
				t.Errorf("%s became %s", before, after)
			}
		}
	}
}
