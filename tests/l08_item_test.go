package tests

import (
	"math"
	"math/rand"
	"slices"
	"strings"
	"testing"

	"loop.example/g03407/impl"
)

// The largest numbers that the document allows.
const (
	mostItems    = 12
	mostQuantity = 100000
	longestLead  = 30
	mostSize     = 1000
	mostScrap    = 50
)

func TestConstantsOfItems(t *testing.T) {
	if impl.ItemBought != 0 || impl.ItemMade != 1 || impl.ItemPhantom != 2 {
		t.Errorf("ItemBought = %d, ItemMade = %d, ItemPhantom = %d", impl.ItemBought, impl.ItemMade, impl.ItemPhantom)
	}
	if impl.LotExact != 0 || impl.LotFixed != 1 || impl.LotPeriod != 2 {
		t.Errorf("LotExact = %d, LotFixed = %d, LotPeriod = %d", impl.LotExact, impl.LotFixed, impl.LotPeriod)
	}
	if impl.MaxItems != mostItems || impl.MaxQuantity != mostQuantity || impl.MaxLead != longestLead {
		t.Errorf("MaxItems = %d, MaxQuantity = %d, MaxLead = %d", impl.MaxItems, impl.MaxQuantity, impl.MaxLead)
	}
}

// plainItem returns a bought item with nothing but what each item has.
func plainItem(code string) impl.Item { return impl.Item{Code: code, Unit: "PC"} }

func itemsWithCodes(codes ...string) []impl.Item {
	var l []impl.Item
	for _, code := range codes {
		l = append(l, plainItem(code))
	}
	return l
}

// manyItems returns n items whose codes ascend.
func manyItems(n int) []impl.Item {
	var l []impl.Item
	for i := range n {
		l = append(l, plainItem("I"+string(rune('A'+i/26))+string(rune('A'+i%26))))
	}
	return l
}

// withScrap returns an item of which so many of a hundred are lost.
func withScrap(scrap int) impl.Item {
	return impl.Item{Code: "A", Unit: "PC", Kind: impl.ItemMade, Lead: 2, Rule: impl.LotFixed, Size: 5, Safety: 7, Scrap: scrap}
}

// lotRule is a rule with a size.
type lotRule struct{ rule, size int }

func someLotRules() []lotRule {
	return []lotRule{{0, 0}, {1, 1}, {1, 2}, {1, mostSize - 1}, {1, mostSize}, {2, 1}, {2, 7}, {2, mostSize - 1}, {2, mostSize}}
}

func noLotRules() []lotRule {
	l := []lotRule{{0, 1}, {0, 2}, {0, mostSize}, {0, -1}, {1, 0}, {1, -1}, {1, mostSize + 1}, {2, 0}, {2, -1}, {2, mostSize + 1}}
	for _, n := range farNumbers() {
		l = append(l, lotRule{0, n}, lotRule{1, n}, lotRule{2, n}, lotRule{n, 0}, lotRule{n, 1}, lotRule{n, n})
	}
	for _, rule := range []int{-1, -2, 3, 4} {
		l = append(l, lotRule{rule, 0}, lotRule{rule, 1}, lotRule{rule, mostSize})
	}
	return l
}

// farNumbers returns numbers far below 0 and far beyond all limits.
func farNumbers() []int {
	return []int{math.MinInt, math.MinInt + 1, -1 << 32, -mostAmount, 1 << 32, 1<<32 + 1, 1<<32 + 2, 1 << 62, math.MaxInt - 1, math.MaxInt}
}

// someItems returns valid items: each field at both of its ends, and in between.
func someItems() []impl.Item {
	var l []impl.Item
	for _, kind := range []int{0, 1} {
		for _, r := range someLotRules() {
			for _, lead := range []int{0, 1, longestLead} {
				for _, safety := range []int{0, mostQuantity} {
					for _, scrap := range []int{0, 1, mostScrap} {
						l = append(l, impl.Item{Code: "A", Unit: "PC", Kind: kind, Lead: lead, Rule: r.rule, Size: r.size, Safety: safety, Scrap: scrap})
					}
				}
			}
		}
	}
	for _, code := range []string{"A", "Z", "A-", "A1", "Z9", "ABCDEFGH", "A-------", "A0000000"} {
		for _, kind := range []int{0, 1, 2} {
			l = append(l, impl.Item{Code: code, Unit: "KG", Kind: kind}, impl.Item{Code: "B", Unit: code, Kind: kind}, impl.Item{Code: code, Unit: code, Kind: kind})
		}
	}
	return l
}

// noItems returns items that are not valid, each for one reason.
func noItems() []impl.Item {
	l := []impl.Item{{}, {Code: "A"}, {Unit: "PC"}}
	for _, kind := range []int{0, 1, 2} {
		for _, code := range noCodes() {
			l = append(l, impl.Item{Code: code, Unit: "PC", Kind: kind}, impl.Item{Code: "A", Unit: code, Kind: kind})
		}
		for _, n := range append(farNumbers(), -2, -1) {
			l = append(l, changedItems(kind, n)...)
		}
		for _, r := range noLotRules() {
			l = append(l, impl.Item{Code: "A", Unit: "PC", Kind: kind, Rule: r.rule, Size: r.size})
		}
		l = append(l, impl.Item{Code: "A", Unit: "PC", Kind: kind, Lead: longestLead + 1})
		l = append(l, impl.Item{Code: "A", Unit: "PC", Kind: kind, Safety: mostQuantity + 1})
		l = append(l, impl.Item{Code: "A", Unit: "PC", Kind: kind, Scrap: mostScrap + 1}, impl.Item{Code: "A", Unit: "PC", Kind: kind, Scrap: 99})
		l = append(l, impl.Item{Code: "A", Unit: "PC", Kind: kind, Scrap: 100}, impl.Item{Code: "A", Unit: "PC", Kind: kind, Scrap: 101})
	}
	for _, kind := range append(farNumbers(), -2, -1, 3, 4) {
		l = append(l, impl.Item{Code: "A", Unit: "PC", Kind: kind}, impl.Item{Code: "A", Unit: "PC", Kind: kind, Lead: 1})
	}
	return append(l, plannedPhantoms()...)
}

// changedItems returns items of a kind with one number that is n.
func changedItems(kind int, n int) []impl.Item {
	x := impl.Item{Code: "A", Unit: "PC", Kind: kind}
	lead, safety, scrap := x, x, x
	lead.Lead, safety.Safety, scrap.Scrap = n, n, n
	return []impl.Item{lead, safety, scrap}
}

// plannedPhantoms returns phantoms with what only other items have.
func plannedPhantoms() []impl.Item {
	x := impl.Item{Code: "A", Unit: "PC", Kind: impl.ItemPhantom}
	l := changedItems(impl.ItemPhantom, 1)
	for _, r := range someLotRules() {
		if r.rule != impl.LotExact {
			x.Rule, x.Size = r.rule, r.size
			l = append(l, x)
		}
	}
	lead, safety, scrap := plainItem("A"), plainItem("A"), plainItem("A")
	lead.Lead, safety.Safety, scrap.Scrap = longestLead, mostQuantity, mostScrap
	for _, y := range []impl.Item{lead, safety, scrap, withScrap(0), withScrap(9)} {
		y.Kind = impl.ItemPhantom
		l = append(l, y)
	}
	return l
}

// checkNoQuantities checks that nothing is reckoned with an item that is not valid.
func checkNoQuantities(t *testing.T, x impl.Item) {
	t.Helper()
	for _, n := range []int{0, 1, 100, mostAmount, -1} {
		checkNoGross(t, x, n)
		checkNoNet(t, x, n)
	}
}

func checkNoGross(t *testing.T, x impl.Item, quantity int) {
	t.Helper()
	if n, ok := impl.GrossOf(x, quantity); n != 0 || ok {
		t.Errorf("GrossOf(%v, %d) = %d, %v", x, quantity, n, ok)
	}
}

func checkNoNet(t *testing.T, x impl.Item, gross int) {
	t.Helper()
	if n, ok := impl.NetOf(x, gross); n != 0 || ok {
		t.Errorf("NetOf(%v, %d) = %d, %v", x, gross, n, ok)
	}
}

func TestIsItem(t *testing.T) {
	for _, x := range someItems() {
		if !impl.IsItem(x) {
			t.Errorf("%v is no item", x)
		}
	}
	for _, x := range noItems() {
		if impl.IsItem(x) {
			t.Errorf("%v is an item", x)
		}
		checkNoQuantities(t, x)
	}
}

// TestBoundsOfItems goes through all numbers up to beyond the bounds of each field.
func TestBoundsOfItems(t *testing.T) {
	for n := -3; n <= mostSize+3; n++ {
		x := plainItem("A")
		x.Lead = n
		if impl.IsItem(x) != (n >= 0 && n <= 30) {
			t.Errorf("IsItem with a lead time of %d is %v", n, impl.IsItem(x))
		}
		x = plainItem("A")
		x.Scrap = n
		if impl.IsItem(x) != (n >= 0 && n <= 50) {
			t.Errorf("IsItem with a scrap of %d is %v", n, impl.IsItem(x))
		}
		for rule := -2; rule <= 4; rule++ {
			x = plainItem("A")
			x.Rule, x.Size = rule, n
			want := rule == 0 && n == 0 || (rule == 1 || rule == 2) && n >= 1 && n <= 1000
			if impl.IsItem(x) != want {
				t.Errorf("IsItem with the rule %d and the size %d is %v", rule, n, !want)
			}
		}
		for _, safety := range []int{n, mostQuantity - 3 + n} {
			x = plainItem("A")
			x.Safety = safety
			if impl.IsItem(x) != (safety >= 0 && safety <= 100000) {
				t.Errorf("IsItem with a safety stock of %d is %v", safety, impl.IsItem(x))
			}
		}
	}
}

func TestIsCatalog(t *testing.T) {
	for _, l := range [][]impl.Item{
		nil, {}, manyItems(1), manyItems(mostItems - 1), manyItems(mostItems),
		itemsWithCodes("A", "B"), itemsWithCodes("A", "A-", "A0", "AA", "AB", "B"), itemsWithCodes("A", "AAAAAAAA", "B"), itemsWithCodes("A9", "AA", "B-", "B0"),
		// units and all else may be alike
		{withScrap(50), plainItem("B"), {Code: "PC", Unit: "PC", Kind: impl.ItemPhantom}},
	} {
		if !impl.IsCatalog(l) {
			t.Errorf("%v is no catalog", l)
		}
	}
	for _, l := range [][]impl.Item{
		manyItems(mostItems + 1), manyItems(mostItems + 2), manyItems(300),
		// codes that are there twice, next to each other or not
		itemsWithCodes("A", "A"), itemsWithCodes("A", "B", "B"), itemsWithCodes("A", "A", "B"), itemsWithCodes("A", "B", "A"), append(manyItems(11), manyItems(11)[10]),
		{withScrap(1), withScrap(2)},
		// codes that descend
		itemsWithCodes("B", "A"), itemsWithCodes("A", "C", "B"), itemsWithCodes("C", "A", "B"), itemsWithCodes("AA", "A"), itemsWithCodes("AA", "A9"), itemsWithCodes("A0", "A-"), itemsWithCodes("B", "AAAAAAAA"),
	} {
		if impl.IsCatalog(l) {
			t.Errorf("%v is a catalog", l)
		}
	}
}

// TestItemsOfCatalogs has each item first, in the middle and last in a catalog.
func TestItemsOfCatalogs(t *testing.T) {
	for _, x := range someItems() {
		if !impl.IsCatalog([]impl.Item{x}) {
			t.Errorf("%v is no catalog", x)
		}
	}
	for _, x := range noItems() {
		if impl.IsCatalog([]impl.Item{x}) {
			t.Errorf("the catalog of %v is one", x)
		}
		if !impl.IsCode(x.Code) {
			continue
		}
		for i, code := range []string{"A", "B", "C"} {
			l := itemsWithCodes("A", "B", "C")
			l[i] = x
			l[i].Code = code
			if impl.IsCatalog(l) {
				t.Errorf("%v is a catalog", l)
			}
		}
	}
}

// TestOrderOfCatalogs shuffles the items: only one order of them is a catalog.
func TestOrderOfCatalogs(t *testing.T) {
	r := rand.New(rand.NewSource(8))
	for range 300 {
		l := manyItems(2 + r.Intn(mostItems-1))
		r.Shuffle(len(l), func(i int, j int) { l[i], l[j] = l[j], l[i] })
		ordered := slices.IsSortedFunc(l, func(a impl.Item, b impl.Item) int { return strings.Compare(a.Code, b.Code) })
		if impl.IsCatalog(l) != ordered {
			t.Errorf("IsCatalog(%v) = %v", l, !ordered)
		}
	}
}

func TestFindItem(t *testing.T) {
	for n := range mostItems + 1 {
		l := manyItems(n)
		for i, x := range l {
			if got := impl.FindItem(l, x.Code); got != i {
				t.Errorf("FindItem(%v, %q) = %d, not %d", l, x.Code, got, i)
			}
		}
		for _, code := range append(noCodes(), "NONE", "I", "IAAA", "PC", "A", "iaa") {
			if got := impl.FindItem(l, code); got != -1 {
				t.Errorf("FindItem(%v, %q) = %d", l, code, got)
			}
		}
	}
}

// TestFindItemAmongAny has items that are not valid, or one code twice, or too many of them.
func TestFindItemAmongAny(t *testing.T) {
	l := itemsWithCodes("B", "A", "", "B", "a b", "", "A", "ABCDEFGHIJ", "\xff")
	l[0].Lead, l[1].Kind, l[6].Size = -1, 7, math.MinInt
	for code, want := range map[string]int{"B": 0, "A": 1, "": 2, "a b": 4, "ABCDEFGHIJ": 7, "\xff": 8, "ABCDEFGH": -1, "C": -1, "b": -1, " ": -1} {
		if got := impl.FindItem(l, code); got != want {
			t.Errorf("FindItem of %q is %d, not %d", code, got, want)
		}
	}
	long := manyItems(600)
	for _, i := range []int{0, mostItems, 300, 599} {
		if got := impl.FindItem(long, long[i].Code); got != i {
			t.Errorf("FindItem of %q is %d, not %d", long[i].Code, got, i)
		}
	}
	if got := impl.FindItem(nil, ""); got != -1 {
		t.Errorf("FindItem among none is %d", got)
	}
	if got := impl.FindItem([]impl.Item{{}}, ""); got != 0 {
		t.Errorf("FindItem of the zero value is %d", got)
	}
}

// TestGrossOfCounts takes the least number of which enough are good, by trying one number after the other.
func TestGrossOfCounts(t *testing.T) {
	for scrap := range mostScrap + 1 {
		gross := 0
		for quantity := range 700 {
			for gross*(100-scrap) < quantity*100 {
				gross++
			}
			if n, ok := impl.GrossOf(withScrap(scrap), quantity); n != gross || !ok {
				t.Errorf("GrossOf of %d with a scrap of %d is %d, %v, not %d", quantity, scrap, n, ok, gross)
			}
		}
	}
}

// TestNetOfCounts begins one piece more after the other, and counts those that are good as soon as they are whole.
func TestNetOfCounts(t *testing.T) {
	for scrap := range mostScrap + 1 {
		net := 0
		for gross := range 700 {
			for (net+1)*100 <= gross*(100-scrap) {
				net++
			}
			if n, ok := impl.NetOf(withScrap(scrap), gross); n != net || !ok {
				t.Errorf("NetOf of %d with a scrap of %d is %d, %v, not %d", gross, scrap, n, ok, net)
			}
		}
	}
}

// quantitiesUpTo returns quantities from 0 to a greatest one, most of them at the ends.
func quantitiesUpTo(greatest int) []int {
	r := rand.New(rand.NewSource(int64(greatest)))
	var l []int
	for i := range 210 {
		l = append(l, i, greatest-i, greatest/2+i, r.Intn(greatest))
	}
	return l
}

// TestGrossIsJustEnough checks that the gross quantity is the least one of which enough are good.
func TestGrossIsJustEnough(t *testing.T) {
	for scrap := range mostScrap + 1 {
		x := withScrap(scrap)
		for _, quantity := range quantitiesUpTo(mostAmount) {
			gross, ok := impl.GrossOf(x, quantity)
			net, netOK := impl.NetOf(x, gross)
			if !ok || !netOK || net < quantity {
				t.Errorf("for %d with a scrap of %d are begun %d, %v, of which are good %d, %v", quantity, scrap, gross, ok, net, netOK)
			}
			if gross == 0 {
				continue
			}
			if net, ok := impl.NetOf(x, gross-1); !ok || net >= quantity {
				t.Errorf("for %d with a scrap of %d need not be begun %d, as of one less are good %d, %v", quantity, scrap, gross, net, ok)
			}
		}
	}
}

// TestNetIsNoMoreThanGood checks that the net quantity is the greatest one for which no more must be begun.
func TestNetIsNoMoreThanGood(t *testing.T) {
	for scrap := range mostScrap + 1 {
		x := withScrap(scrap)
		for _, gross := range quantitiesUpTo(2 * mostAmount) {
			net, ok := impl.NetOf(x, gross)
			if !ok || net < 0 || net*100 > gross*(100-scrap) || (net+1)*100 <= gross*(100-scrap) {
				t.Errorf("of %d with a scrap of %d are good %d, %v", gross, scrap, net, ok)
			}
			// With little scrap more are good than there may be asked for.
			if net > mostAmount {
				checkNoGross(t, x, net)
			} else if begun, ok := impl.GrossOf(x, net); !ok || begun > gross {
				t.Errorf("of %d with a scrap of %d are good %d, for which are begun %d, %v", gross, scrap, net, begun, ok)
			}
		}
	}
}

// TestScrapOfNone checks that without scrap all pieces are good.
func TestScrapOfNone(t *testing.T) {
	for _, x := range []impl.Item{withScrap(0), plainItem("A"), {Code: "A", Unit: "PC", Kind: impl.ItemPhantom}} {
		for _, n := range quantitiesUpTo(mostAmount) {
			gross, ok := impl.GrossOf(x, n)
			net, netOK := impl.NetOf(x, n)
			if gross != n || !ok || net != n || !netOK {
				t.Errorf("of %d are begun %d, %v, and good %d, %v", n, gross, ok, net, netOK)
			}
		}
		if n, ok := impl.NetOf(x, 2*mostAmount); n != 2*mostAmount || !ok {
			t.Errorf("NetOf of the most is %d, %v", n, ok)
		}
	}
}

// TestScrapOfOneHalf checks that twice as many are begun.
func TestScrapOfOneHalf(t *testing.T) {
	x := withScrap(mostScrap)
	for _, n := range quantitiesUpTo(mostAmount) {
		if gross, ok := impl.GrossOf(x, n); gross != 2*n || !ok {
			t.Errorf("GrossOf(%d) = %d, %v", n, gross, ok)
		}
		if net, ok := impl.NetOf(x, 2*n); net != n || !ok {
			t.Errorf("NetOf(%d) = %d, %v", 2*n, net, ok)
		}
		if n > 0 {
			if net, ok := impl.NetOf(x, 2*n-1); net != n-1 || !ok {
				t.Errorf("NetOf(%d) = %d, %v", 2*n-1, net, ok)
			}
		}
	}
}

func TestQuantitiesOutOfRange(t *testing.T) {
	for _, x := range someItems() {
		for _, n := range append(farNumbers(), -1, -2, -100) {
			checkNoGross(t, x, n)
			checkNoNet(t, x, n)
		}
		for _, n := range []int{mostAmount + 1, mostAmount + 2, 2 * mostAmount} {
			checkNoGross(t, x, n)
		}
		for _, n := range []int{2*mostAmount + 1, 2*mostAmount + 2, 4 * mostAmount} {
			checkNoNet(t, x, n)
		}
		for _, n := range []int{0, mostAmount} {
			if _, ok := impl.GrossOf(x, n); !ok {
				t.Errorf("GrossOf(%v, %d) is false", x, n)
			}
			if _, ok := impl.NetOf(x, 2*n); !ok {
				t.Errorf("NetOf(%v, %d) is false", x, 2*n)
			}
		}
	}
}

// TestScrapCases has quantities that are reckoned by hand.
func TestScrapCases(t *testing.T) {
	for _, k := range []struct{ scrap, quantity, gross int }{
		{10, 0, 0}, {10, 1, 2}, {10, 8, 9}, {10, 9, 10}, {10, 10, 12}, {10, 18, 20}, {10, 90, 100}, {10, 91, 102},
		{1, 1, 2}, {1, 98, 99}, {1, 99, 100}, {1, 100, 102}, {3, 97, 100}, {3, 98, 102}, {7, 1000, 1076},
		{20, 4, 5}, {20, 5, 7}, {25, 3, 4}, {25, 4, 6}, {33, 67, 100}, {33, 2, 3}, {49, 51, 100}, {49, 1, 2}, {49, 2, 4}, {50, 1, 2}, {50, 51, 102},
		{0, mostAmount, mostAmount}, {50, mostAmount, 2 * mostAmount}, {49, mostAmount, 1960784314}, {1, mostAmount, 1010101011}, {10, mostAmount, 1111111112}, {20, mostAmount, 1250000000},
	} {
		if n, ok := impl.GrossOf(withScrap(k.scrap), k.quantity); n != k.gross || !ok {
			t.Errorf("GrossOf of %d with a scrap of %d is %d, %v, not %d", k.quantity, k.scrap, n, ok, k.gross)
		}
	}
	for _, k := range []struct{ scrap, gross, net int }{
		{10, 0, 0}, {10, 1, 0}, {10, 2, 1}, {10, 10, 9}, {10, 11, 9}, {10, 12, 10}, {1, 99, 98}, {1, 100, 99}, {1, 101, 99}, {25, 3, 2}, {25, 4, 3}, {33, 3, 2}, {49, 1, 0}, {49, 2, 1}, {49, 3, 1}, {50, 3, 1},
		{0, 2 * mostAmount, 2 * mostAmount}, {50, 2 * mostAmount, mostAmount}, {1, 2 * mostAmount, 1980000000}, {49, 2 * mostAmount, 1020000000}, {49, 2*mostAmount - 1, 1019999999},
	} {
		if n, ok := impl.NetOf(withScrap(k.scrap), k.gross); n != k.net || !ok {
			t.Errorf("NetOf of %d with a scrap of %d is %d, %v, not %d", k.gross, k.scrap, n, ok, k.net)
		}
	}
}

// TestItemsStayAsTheyAre checks that catalogs are not modified, nor is their unused capacity.
func TestItemsStayAsTheyAre(t *testing.T) {
	l := append(manyItems(3), plainItem("KEPT"), withScrap(5))
	kept := slices.Clone(l)
	for _, n := range []int{0, 2, 3} {
		impl.IsCatalog(l[:n])
		impl.FindItem(l[:n], "KEPT")
		impl.FindItem(l[:n], "IAB")
	}
	if !slices.Equal(l, kept) {
		t.Errorf("the items are now %v", l)
	}
}
