package tests

import (
	"fmt"
	"math/rand"
	"slices"
	"strings"
	"testing"

	"loop.example/g03407/impl"
)

// The largest numbers that the document allows.
const (
	mostDemands = 16
	mostId      = 9999
	lastRank    = 9
	mostReach   = 60
)

func TestConstantsOfDemands(t *testing.T) {
	if impl.MaxDemands != mostDemands || impl.MaxId != mostId {
		t.Errorf("MaxDemands = %d, MaxId = %d", impl.MaxDemands, impl.MaxId)
	}
}

// demandFrom returns the demand of a text such as 7 A*10 5/2, with its Id first and its day and rank last; without a rank it has 0.
func demandFrom(s string) impl.Demand {
	words := strings.Fields(s)
	day, rank, ranked := strings.Cut(words[2], "/")
	x := impl.Demand{Id: numberIn(words[0]), Day: numberIn(day)}
	x.Item, x.Quantity = partIn(words[1])
	if ranked {
		x.Rank = numberIn(rank)
	}
	return x
}

// demandsFrom returns the demands of a text with commas between them.
func demandsFrom(s string) []impl.Demand {
	if s == "" {
		return nil
	}
	var l []impl.Demand
	for _, word := range strings.Split(s, ", ") {
		l = append(l, demandFrom(word))
	}
	return l
}

// textOfDemands is the way back.
func textOfDemands(l []impl.Demand) string {
	var words []string
	for _, x := range l {
		s := fmt.Sprintf("%d %s*%d %d", x.Id, x.Item, x.Quantity, x.Day)
		if x.Rank != 0 {
			s += fmt.Sprintf("/%d", x.Rank)
		}
		words = append(words, s)
	}
	return strings.Join(words, ", ")
}

// manyDemands returns n demands with different Ids for some items on some days.
func manyDemands(n int) []impl.Demand {
	var l []impl.Demand
	for i := range n {
		l = append(l, impl.Demand{Id: i + 1, Item: string(rune('A' + i%3)), Quantity: 10 + i, Day: i * 7 % 5, Rank: i % 4})
	}
	return l
}

// someDemands returns valid demands: each field at both of its ends, and in between.
func someDemands() []impl.Demand {
	var l []impl.Demand
	for _, id := range []int{1, 2, 100, mostId - 1, mostId} {
		l = append(l, impl.Demand{Id: id, Item: "A", Quantity: 1})
	}
	for _, code := range []string{"A", "Z", "A-", "A1", "ABCDEFGH", "A-------", "A0000000"} {
		l = append(l, impl.Demand{Id: 5, Item: code, Quantity: 7, Day: 3, Rank: 1})
	}
	for _, quantity := range []int{1, 2, 1000, mostQuantity - 1, mostQuantity} {
		l = append(l, impl.Demand{Id: 5, Item: "A", Quantity: quantity, Day: 3, Rank: 1})
	}
	for _, day := range []int{0, 1, 500, mostDay - 1, mostDay} {
		for _, rank := range []int{0, 1, lastRank - 1, lastRank} {
			l = append(l, impl.Demand{Id: 5, Item: "A", Quantity: 7, Day: day, Rank: rank})
		}
	}
	return append(l, impl.Demand{Id: mostId, Item: "ZZZZZZZZ", Quantity: mostQuantity, Day: mostDay, Rank: lastRank})
}

// noDemands returns demands that are not valid, each for one reason.
func noDemands() []impl.Demand {
	l := []impl.Demand{{}}
	add := func(spoil func(x *impl.Demand)) {
		for _, x := range []impl.Demand{demandFrom("500 A*7 3/1"), demandFrom("1 A*1 0"), {Id: mostId, Item: "Z", Quantity: mostQuantity, Day: mostDay, Rank: lastRank}} {
			spoil(&x)
			l = append(l, x)
		}
	}
	for _, n := range append(farNumbers(), -1, -2) {
		add(func(x *impl.Demand) { x.Id = n })
		add(func(x *impl.Demand) { x.Quantity = n })
		add(func(x *impl.Demand) { x.Day = n })
		add(func(x *impl.Demand) { x.Rank = n })
	}
	for _, code := range noCodes() {
		add(func(x *impl.Demand) { x.Item = code })
	}
	for i := range 2 {
		add(func(x *impl.Demand) { x.Id = mostId + 1 + i })
		add(func(x *impl.Demand) { x.Quantity = mostQuantity + 1 + i })
		add(func(x *impl.Demand) { x.Day = mostDay + 1 + i })
		add(func(x *impl.Demand) { x.Rank = lastRank + 1 + i })
	}
	add(func(x *impl.Demand) { x.Id = 0 })
	add(func(x *impl.Demand) { x.Quantity = 0 })
	return l
}

// demandsOfChance returns n demands of few items on few days, with Ids in no order.
func demandsOfChance(r *rand.Rand, n int, days int, most int) []impl.Demand {
	ids := r.Perm(mostId)
	var l []impl.Demand
	for i := range n {
		l = append(l, impl.Demand{Id: ids[i] + 1, Item: []string{"A", "A", "AA", "B"}[r.Intn(4)], Quantity: 1 + r.Intn(most), Day: r.Intn(days), Rank: r.Intn(3)})
	}
	return l
}

// placeOf returns one number by which demands are sorted.
func placeOf(x impl.Demand) int { return (x.Day*10+x.Rank)*10000 + x.Id }

// sortedByHand takes one demand after the other, always the one that comes before all that are left.
func sortedByHand(l []impl.Demand) []impl.Demand {
	rest := slices.Clone(l)
	var sorted []impl.Demand
	for len(rest) > 0 {
		first := 0
		for i, x := range rest {
			if placeOf(x) < placeOf(rest[first]) {
				first = i
			}
		}
		sorted = append(sorted, rest[first])
		rest = slices.Delete(rest, first, first+1)
	}
	return sorted
}

// daysByHand returns the days whose forecasts an order takes, one after the other.
func daysByHand(day int, back int, ahead int) []int {
	days := []int{day}
	for n := 1; n <= back; n++ {
		days = append(days, day-n)
	}
	for n := 1; n <= ahead; n++ {
		days = append(days, day+n)
	}
	return days
}

// leftByHand goes, for each order, from day to day and there from forecast to forecast.
func leftByHand(forecast []impl.Demand, orders []impl.Demand, back int, ahead int) []impl.Demand {
	left := sortedByHand(forecast)
	for _, order := range sortedByHand(orders) {
		for _, day := range daysByHand(order.Day, back, ahead) {
			for i, f := range left {
				if f.Day != day || f.Item != order.Item {
					continue
				}
				n := min(order.Quantity, f.Quantity)
				order.Quantity -= n
				left[i].Quantity -= n
			}
		}
	}
	return slices.DeleteFunc(left, func(f impl.Demand) bool { return f.Quantity == 0 })
}

// quantitiesOf returns the sum of all quantities of an item.
func quantitiesOf(l []impl.Demand, item string) int {
	sum := 0
	for _, x := range l {
		if x.Item == item {
			sum += x.Quantity
		}
	}
	return sum
}

// onlyOf returns the demands of an item.
func onlyOf(l []impl.Demand, item string) []impl.Demand {
	return slices.DeleteFunc(slices.Clone(l), func(x impl.Demand) bool { return x.Item != item })
}

func checkSortedDemands(t *testing.T, l []impl.Demand, want []impl.Demand) {
	t.Helper()
	if got := impl.SortDemands(l); !slices.Equal(got, want) {
		t.Errorf("SortDemands(%s) = %s, not %s", textOfDemands(l), textOfDemands(got), textOfDemands(want))
	}
}

func checkDemandUpTo(t *testing.T, l []impl.Demand, item string, day int, want int) {
	t.Helper()
	if got := impl.DemandUpTo(l, item, day); got != want {
		t.Errorf("DemandUpTo(%s, %q, %d) = %d, not %d", textOfDemands(l), item, day, got, want)
	}
}

func checkLeft(t *testing.T, forecast []impl.Demand, orders []impl.Demand, back int, ahead int, want []impl.Demand) {
	t.Helper()
	if got, ok := impl.ConsumeForecast(forecast, orders, back, ahead); !ok || !slices.Equal(got, want) {
		t.Errorf("ConsumeForecast(%s; %s; %d, %d) = %s, %v, not %s", textOfDemands(forecast), textOfDemands(orders), back, ahead, textOfDemands(got), ok, textOfDemands(want))
	}
}

func checkNoLeft(t *testing.T, forecast []impl.Demand, orders []impl.Demand, back int, ahead int) {
	t.Helper()
	if got, ok := impl.ConsumeForecast(forecast, orders, back, ahead); ok || len(got) > 0 {
		t.Errorf("ConsumeForecast(%s; %s; %d, %d) = %s, %v", textOfDemands(forecast), textOfDemands(orders), back, ahead, textOfDemands(got), ok)
	}
}

// checkNoDemands checks that there is nothing of a list that is not valid, whatever the other one is.
func checkNoDemands(t *testing.T, l []impl.Demand) {
	t.Helper()
	if impl.AreDemands(l) {
		t.Errorf("%s are demands", textOfDemands(l))
	}
	if got := impl.SortDemands(l); len(got) > 0 {
		t.Errorf("SortDemands(%s) = %s", textOfDemands(l), textOfDemands(got))
	}
	for _, item := range []string{"A", "Z", "", l[0].Item} {
		for _, day := range []int{0, 3, mostDay, mostDay + 1} {
			checkDemandUpTo(t, l, item, day, 0)
		}
	}
	for _, other := range [][]impl.Demand{nil, demandsFrom("1 A*10 3"), manyDemands(mostDemands)} {
		checkNoLeft(t, l, other, 0, 0)
		checkNoLeft(t, other, l, 0, 0)
		checkNoLeft(t, l, other, mostReach, mostReach)
		checkNoLeft(t, other, l, mostReach, mostReach)
	}
	checkNoLeft(t, l, l, 1, 1)
}

func TestAreDemands(t *testing.T) {
	for _, x := range someDemands() {
		if !impl.AreDemands([]impl.Demand{x}) {
			t.Errorf("%v is no demand", x)
		}
	}
	for _, l := range [][]impl.Demand{
		nil, {}, demandsFrom("1 A*10 5, 2 A*10 5"), demandsFrom("2 A*10 5, 1 A*10 3"), demandsFrom("1 A*1 0, 9999 A*100000 999/9"),
		// in no order, and alike but for their Ids
		demandsFrom("7 B*1 9/3, 3 A*1 9/1, 5 C*1 2/2, 4 A*1 2"), demandsFrom("3 A*1 1, 2 A*1 1, 1 A*1 1"),
	} {
		if !impl.AreDemands(l) {
			t.Errorf("%s are no demands", textOfDemands(l))
		}
	}
}

// TestFieldsOfDemands goes through all numbers up to beyond the bounds.
func TestFieldsOfDemands(t *testing.T) {
	for n := -3; n <= mostId+3; n++ {
		x := impl.Demand{Id: n, Item: "A", Quantity: 1}
		if got := impl.AreDemands([]impl.Demand{x}); got != (n >= 1 && n <= 9999) {
			t.Errorf("%v is a demand: %v", x, got)
		}
		x = impl.Demand{Id: 1, Item: "A", Quantity: 1, Day: n}
		if got := impl.AreDemands([]impl.Demand{x}); got != (n >= 0 && n <= 999) {
			t.Errorf("%v is a demand: %v", x, got)
		}
		x = impl.Demand{Id: 1, Item: "A", Quantity: 1, Rank: n}
		if got := impl.AreDemands([]impl.Demand{x}); got != (n >= 0 && n <= 9) {
			t.Errorf("%v is a demand: %v", x, got)
		}
	}
	for n := -3; n <= mostQuantity+3; n++ {
		x := impl.Demand{Id: 1, Item: "A", Quantity: n}
		if got := impl.AreDemands([]impl.Demand{x}); got != (n >= 1 && n <= 100000) {
			t.Errorf("%v is a demand: %v", x, got)
		}
	}
}

func TestNumberOfDemands(t *testing.T) {
	for n := range 40 {
		l := manyDemands(n)
		if n > 16 {
			checkNoDemands(t, l)
			continue
		}
		if !impl.AreDemands(l) || len(impl.SortDemands(l)) != n {
			t.Errorf("%d are demands: %v", n, impl.AreDemands(l))
		}
		checkLeft(t, l, nil, 0, 0, sortedByHand(l))
		checkLeft(t, nil, l, 0, 0, nil)
		checkLeft(t, l, l, 0, 0, nil)
	}
	checkNoDemands(t, manyDemands(mostId))
}

// TestSameIds gives any two demands one Id, side by side and far apart.
func TestSameIds(t *testing.T) {
	for n := 2; n <= mostDemands; n++ {
		for i := range n {
			for j := range i {
				l := manyDemands(n)
				l[i].Id = l[j].Id
				checkNoDemands(t, l)
				l[i] = l[j]
				checkNoDemands(t, l)
			}
		}
	}
	// Forecasts and orders are numbered by themselves.
	checkLeft(t, demandsFrom("1 A*10 5, 2 A*10 6"), demandsFrom("1 A*4 5, 2 A*3 6"), 0, 0, demandsFrom("1 A*6 5, 2 A*7 6"))
	checkLeft(t, demandsFrom("7 A*10 5"), demandsFrom("7 A*10 5"), 0, 0, nil)
	checkLeft(t, demandsFrom("7 A*10 5"), demandsFrom("7 B*10 6"), 1, 1, demandsFrom("7 A*10 5"))
}

// TestNoDemandAmongDemands has each demand that is not valid alone, first, in the middle and last.
func TestNoDemandAmongDemands(t *testing.T) {
	for _, x := range noDemands() {
		for _, n := range []int{1, 2, 3, mostDemands} {
			for _, i := range []int{0, n / 2, n - 1} {
				l := manyDemands(n)
				l[i] = x
				// The Id shall not be there twice as well.
				for j := range l {
					if j != i {
						l[j].Id += 600
					}
				}
				checkNoDemands(t, l)
			}
		}
	}
}

// TestSortDemands has lists in all orders: they are sorted the same way each time.
func TestSortDemands(t *testing.T) {
	for _, s := range []string{
		"", "7 A*10 5/2", "1 A*10 3, 2 A*10 5", "2 A*10 3, 1 A*10 5",
		// of one day by rank, and of one rank by Id
		"5 A*1 9, 4 A*1 9/1, 3 A*1 9/2, 2 A*1 9/8, 1 A*1 9/9", "1 A*1 9/4, 2 A*1 9/4, 3 A*1 9/4, 10 A*1 9/4, 9999 A*1 9/4",
		// demands that differ in one field alone, but for their Ids
		"1 A*10 5/2, 2 A*10 5/2", "2 A*10 5/1, 1 A*10 5/2", "2 A*10 4/2, 1 A*10 5/2", "1 B*10 5/2, 2 A*10 5/2", "1 A*11 5/2, 2 A*10 5/2", "1 A*9 5/2, 2 A*10 5/2",
		// a day counts more than a rank, and a rank more than an Id
		"9 A*1 1/9, 8 A*1 2/8, 7 A*1 3/7, 6 A*1 4/6, 5 A*1 5", "9999 A*1 0/9, 9998 A*1 1/8, 1 A*1 1/9, 2 A*1 999", "30 A*1 5/3, 20 A*1 6/2, 10 A*1 7/1",
		// items and quantities do not count
		"1 C*30 5, 2 A*20 5, 3 B*10 5", "4 Z*9 1, 3 A*1 2, 2 Y*8 3/1, 1 B*2 3/2",
		"4 A*1 0, 5 A*1 0, 1 B*2 0/1, 2 A*2 0/1, 3 C*3 1",
	} {
		want := demandsFrom(s)
		for _, l := range ordersOf(want) {
			checkSortedDemands(t, l, want)
		}
	}
}

// TestSortDemandsOfChance has full lists, of which many are for one day.
func TestSortDemandsOfChance(t *testing.T) {
	r := rand.New(rand.NewSource(13))
	for i := range 600 {
		l := demandsOfChance(r, r.Intn(mostDemands+1), 1+i%5, 100)
		want := sortedByHand(l)
		checkSortedDemands(t, l, want)
		checkSortedDemands(t, want, want)
		checkSortedDemands(t, shuffled(r, l), want)
	}
}

func TestSortDemandsAtTheEnds(t *testing.T) {
	for _, x := range someDemands() {
		checkSortedDemands(t, []impl.Demand{x}, []impl.Demand{x})
	}
	// each pair of demands that differ in their Ids
	for _, a := range someDemands() {
		for _, b := range someDemands() {
			if a.Id != b.Id {
				checkSortedDemands(t, []impl.Demand{a, b}, sortedByHand([]impl.Demand{b, a}))
			}
		}
	}
}

func TestDemandUpTo(t *testing.T) {
	l := demandsFrom("1 A*10 5, 2 A*7 3/9, 3 B*4 5, 4 A*100 5/1, 5 AA*1000 0, 6 A*20000 999, 7 B*3 0")
	for _, k := range []struct {
		item string
		day  int
		want int
	}{
		// the day before, on and after a demand
		{"A", 2, 0}, {"A", 3, 7}, {"A", 4, 7}, {"A", 5, 117}, {"A", 6, 117}, {"A", 998, 117}, {"A", 999, 20117},
		{"B", 0, 3}, {"B", 1, 3}, {"B", 4, 3}, {"B", 5, 7}, {"B", 999, 7}, {"AA", 0, 1000}, {"AA", 999, 1000},
		// days that are negative or beyond MaxDay
		{"A", -1, 0}, {"B", -1, 0}, {"AA", -1, 0}, {"A", 1000, 20117}, {"B", 1000, 7}, {"B", 1 << 32, 7}, {"B", -1 << 32, 0},
		// items that no demand has
		{"C", 999, 0}, {"AAA", 999, 0}, {"a", 999, 0}, {"", 999, 0}, {"A ", 999, 0}, {"ABCDEFGHI", 999, 0},
	} {
		checkDemandUpTo(t, l, k.item, k.day, k.want)
	}
	checkDemandUpTo(t, nil, "A", 5, 0)
	checkDemandUpTo(t, nil, "", mostDay, 0)
}

// TestDemandsOfAllDays adds up the demands day by day.
func TestDemandsOfAllDays(t *testing.T) {
	r := rand.New(rand.NewSource(131))
	for i := range 100 {
		l := demandsOfChance(r, 1+r.Intn(mostDemands), []int{2, 10, 100, mostDay + 1}[i%4], mostQuantity)
		for _, item := range []string{"A", "AA", "B", "C"} {
			sum := 0
			for day := -2; day <= mostDay+2; day++ {
				for _, x := range l {
					if x.Item == item && x.Day == day {
						sum += x.Quantity
					}
				}
				checkDemandUpTo(t, l, item, day, sum)
			}
			for _, day := range farNumbers() {
				want := sum
				if day < 0 {
					want = 0
				}
				checkDemandUpTo(t, l, item, day, want)
			}
			checkDemandUpTo(t, shuffled(r, l), item, mostDay, sum)
		}
	}
	full := make([]impl.Demand, mostDemands)
	for i := range full {
		full[i] = impl.Demand{Id: mostId - i, Item: "ABCDEFGH", Quantity: mostQuantity, Day: mostDay}
	}
	checkDemandUpTo(t, full, "ABCDEFGH", mostDay, 1600000)
	checkDemandUpTo(t, full, "ABCDEFGH", mostDay-1, 0)
}

// TestConsumeForecast has forecasts and orders of which the rest is reckoned by hand.
func TestConsumeForecast(t *testing.T) {
	for _, k := range []struct {
		forecast, orders string
		back, ahead      int
		left             string
	}{
		{"", "", 0, 0, ""}, {"", "9 A*4 5", 60, 60, ""}, {"1 A*10 5", "", 60, 60, "1 A*10 5"}, {"3 A*10 5, 1 B*4 2/1, 2 B*4 2", "", 0, 0, "2 B*4 2, 1 B*4 2/1, 3 A*10 5"},
		// a part of a forecast, all of it, and more than there is
		{"1 A*10 5", "9 A*1 5", 0, 0, "1 A*9 5"}, {"1 A*10 5", "9 A*9 5", 0, 0, "1 A*1 5"}, {"1 A*10 5", "9 A*10 5", 0, 0, ""}, {"1 A*10 5", "9 A*11 5", 0, 0, ""},
		{"1 A*10 5, 2 A*10 6", "9 A*11 5", 0, 0, "2 A*10 6"}, {"1 A*10 5, 2 A*10 6, 3 A*10 4", "9 A*31 5", 1, 1, ""}, {"1 A*100000 5", "9 A*99999 5", 0, 0, "1 A*1 5"}, {"1 A*1 5", "9 A*100000 5", 0, 0, ""},
		{"1 A*10 5/9", "9 A*4 5", 0, 0, "1 A*6 5/9"}, {"1 A*10 5", "9 A*4 5/9", 0, 0, "1 A*6 5"},
		// the order's day, then the days before, then those after
		{"1 A*10 4, 2 A*10 5, 3 A*10 6", "9 A*4 5", 1, 1, "1 A*10 4, 2 A*6 5, 3 A*10 6"}, {"1 A*10 4, 2 A*10 5, 3 A*10 6", "9 A*14 5", 1, 1, "1 A*6 4, 3 A*10 6"},
		{"1 A*10 4, 2 A*10 5, 3 A*10 6", "9 A*24 5", 1, 1, "3 A*6 6"}, {"1 A*10 4, 2 A*10 5, 3 A*10 6", "9 A*24 5", 0, 1, "1 A*10 4"}, {"1 A*10 4, 2 A*10 5, 3 A*10 6", "9 A*24 5", 1, 0, "3 A*10 6"},
		// nearer earlier days before farther ones, and likewise later ones
		{"1 A*10 2, 2 A*10 3, 3 A*10 4", "9 A*14 5", 3, 60, "1 A*10 2, 2 A*6 3"}, {"1 A*10 2, 2 A*10 3, 3 A*10 4", "9 A*30 5", 2, 60, "1 A*10 2"}, {"1 A*10 2, 2 A*10 3, 3 A*10 4", "9 A*30 5", 3, 0, ""},
		{"1 A*10 8, 2 A*10 7, 3 A*10 6", "9 A*14 5", 60, 3, "2 A*6 7, 1 A*10 8"}, {"1 A*10 8, 2 A*10 7, 3 A*10 6", "9 A*30 5", 60, 2, "1 A*10 8"},
		// all earlier days before later ones, though these are nearer
		{"1 A*10 0, 2 A*10 61", "9 A*4 60", 60, 1, "1 A*6 0, 2 A*10 61"}, {"1 A*10 0, 2 A*10 61", "9 A*14 60", 60, 1, "2 A*6 61"}, {"1 A*10 0, 2 A*10 61", "9 A*14 60", 59, 1, "1 A*10 0"},
		{"1 A*5 3, 2 A*5 4, 3 A*5 6, 4 A*5 7", "9 A*12 5", 2, 2, "3 A*3 6, 4 A*5 7"}, {"1 A*5 3, 2 A*5 4, 3 A*5 6, 4 A*5 7", "9 A*8 5", 2, 2, "1 A*2 3, 3 A*5 6, 4 A*5 7"},
		// of one day by rank, and then Id, also before and after the order
		{"5 A*10 5/1, 4 A*10 5/2, 3 A*10 5, 2 A*10 5/1", "9 A*25 5", 0, 0, "5 A*5 5/1, 4 A*10 5/2"}, {"5 A*10 5/1, 4 A*10 5/2, 3 A*10 5, 2 A*10 5/1", "9 A*15 6", 1, 0, "2 A*5 5/1, 5 A*10 5/1, 4 A*10 5/2"},
		{"5 A*10 5/1, 4 A*10 5/2, 3 A*10 5, 2 A*10 5/1", "9 A*35 4", 0, 1, "4 A*5 5/2"}, {"3 A*10 5, 2 A*10 5, 1 A*10 5", "9 A*15 5", 0, 0, "2 A*5 5, 3 A*10 5"},
		// orders for one forecast: the earlier one takes first, in whatever order they are given
		{"1 A*10 5, 2 A*10 7", "8 A*10 6, 9 A*7 4", 1, 1, "2 A*3 7"}, {"1 A*10 5, 2 A*10 7", "9 A*7 4, 8 A*10 6", 1, 1, "2 A*3 7"}, {"1 A*10 5", "8 A*7 6, 9 A*7 4", 1, 1, ""}, {"1 A*20 5", "8 A*7 6, 9 A*7 4", 1, 1, "1 A*6 5"},
		{"1 A*10 4, 2 A*10 5", "8 A*6 5, 9 A*6 5/1, 7 A*6 5/2", 1, 0, "1 A*2 4"}, {"1 A*10 3, 2 A*10 5", "8 A*10 5, 9 A*10 4", 1, 1, ""}, {"1 A*10 3, 2 A*10 5", "8 A*10 5, 9 A*10 4", 0, 1, "1 A*10 3"},
		// forecasts of other items stay whole
		{"1 A*10 5, 2 B*10 5", "9 B*4 5", 60, 60, "1 A*10 5, 2 B*6 5"}, {"1 A*10 5, 2 AA*10 5, 3 A-*10 5, 4 B*10 5", "9 A*40 5", 60, 60, "2 AA*10 5, 3 A-*10 5, 4 B*10 5"}, {"1 A*10 5", "9 AA*10 5", 60, 60, "1 A*10 5"},
		{"2 B*10 5, 1 A*10 5", "9 A*4 5, 8 B*12 6", 1, 0, "1 A*6 5"},
		// forecasts and orders at the first and the last day
		{"1 A*10 0, 2 A*10 60", "9 A*14 0", 60, 60, "2 A*6 60"}, {"1 A*10 0, 2 A*10 61", "9 A*14 0", 60, 60, "2 A*10 61"}, {"1 A*10 939, 2 A*10 999", "9 A*14 999", 60, 60, "1 A*6 939"}, {"1 A*10 938, 2 A*10 999", "9 A*14 999", 60, 60, "1 A*10 938"},
	} {
		checkLeft(t, demandsFrom(k.forecast), demandsFrom(k.orders), k.back, k.ahead, demandsFrom(k.left))
	}
}

// TestOrdersOutsideAllForecasts has an order before all forecasts and one behind them, which reach the nearest, end a day before it, or stay on their day.
func TestOrdersOutsideAllForecasts(t *testing.T) {
	forecast := demandsFrom("3 A*10 7, 1 A*10 5, 2 A*10 6")
	whole := demandsFrom("1 A*10 5, 2 A*10 6, 3 A*10 7")
	before, behind := demandsFrom("9 A*14 2"), demandsFrom("9 A*14 10")
	for back := range mostReach + 1 {
		checkLeft(t, forecast, before, back, 0, whole)
		checkLeft(t, forecast, before, back, 2, whole)
		checkLeft(t, forecast, before, back, 3, demandsFrom("2 A*10 6, 3 A*10 7"))
		checkLeft(t, forecast, before, back, 4, demandsFrom("2 A*6 6, 3 A*10 7"))
		checkLeft(t, forecast, before, back, mostReach, demandsFrom("2 A*6 6, 3 A*10 7"))
	}
	for ahead := range mostReach + 1 {
		checkLeft(t, forecast, behind, 0, ahead, whole)
		checkLeft(t, forecast, behind, 2, ahead, whole)
		checkLeft(t, forecast, behind, 3, ahead, demandsFrom("1 A*10 5, 2 A*10 6"))
		checkLeft(t, forecast, behind, 4, ahead, demandsFrom("1 A*10 5, 2 A*6 6"))
		checkLeft(t, forecast, behind, mostReach, ahead, demandsFrom("1 A*10 5, 2 A*6 6"))
	}
	// an order before all forecasts takes before one in their midst, and more than there is
	checkLeft(t, forecast, demandsFrom("8 A*5 6, 9 A*8 2"), 0, 4, demandsFrom("1 A*2 5, 2 A*5 6, 3 A*10 7"))
	checkLeft(t, forecast, demandsFrom("9 A*100 2"), 0, 5, nil)
	checkLeft(t, forecast, demandsFrom("9 A*100 10"), 5, 0, nil)
}

// TestReach moves a forecast along the days around an order.
func TestReach(t *testing.T) {
	order := demandsFrom("9 A*4 500")
	for _, reach := range [][]int{{0, 0}, {0, 60}, {60, 0}, {60, 60}, {1, 2}, {59, 3}, {7, 59}} {
		for day := 430; day <= 570; day++ {
			f := []impl.Demand{{Id: 1, Item: "A", Quantity: 10, Day: day}}
			want := slices.Clone(f)
			if day >= 500-reach[0] && day <= 500+reach[1] {
				want[0].Quantity = 6
			}
			checkLeft(t, f, order, reach[0], reach[1], want)
		}
	}
}

func TestReachOutOfRange(t *testing.T) {
	l := demandsFrom("1 A*10 5")
	for _, lists := range [][][]impl.Demand{{nil, nil}, {l, nil}, {nil, l}, {l, l}, {manyDemands(mostDemands), l}} {
		for _, n := range append(farNumbers(), -1, -2, -60, 61, 62, 999, 1000) {
			for _, other := range []int{0, 1, 60, -1, 61} {
				checkNoLeft(t, lists[0], lists[1], n, other)
				checkNoLeft(t, lists[0], lists[1], other, n)
			}
			checkNoLeft(t, lists[0], lists[1], n, n)
		}
		for _, n := range []int{0, 1, 59, 60} {
			for _, other := range []int{0, 1, 59, 60} {
				checkLeft(t, lists[0], lists[1], n, other, leftByHand(lists[0], lists[1], n, other))
			}
		}
	}
}

// daily returns demands for A with these quantities on the days from a first one on, and none where the quantity is 0.
func daily(day int, quantities []int) []impl.Demand {
	var l []impl.Demand
	for i, n := range quantities {
		if n > 0 {
			l = append(l, impl.Demand{Id: 50 - i, Item: "A", Quantity: n, Day: day + i})
		}
	}
	return l
}

// TestSmallForecasts has all forecasts and orders of up to 3 pieces on each of up to 3 days.
func TestSmallForecasts(t *testing.T) {
	for _, forecast := range listsOver([]int{0, 1, 3}, 3) {
		for _, orders := range listsOver([]int{0, 1, 2}, 3) {
			for reach := range 16 {
				back, ahead := reach/4, reach%4
				f, o := daily(1, forecast), daily(0, orders)
				checkLeft(t, f, o, back, ahead, leftByHand(f, o, back, ahead))
			}
		}
	}
}

// forecastsOfChance are forecasts, orders, and how far the orders reach.
type forecastsOfChance struct {
	forecast, orders []impl.Demand
	back, ahead      int
}

// someForecasts returns many of them, full ones among them.
func someForecasts(seed int64) []forecastsOfChance {
	r := rand.New(rand.NewSource(seed))
	var all []forecastsOfChance
	for i := range 1500 {
		days, most := []int{2, 5, 12, 61}[i%4], []int{3, 30, mostQuantity}[i%3]
		x := forecastsOfChance{back: r.Intn(days), ahead: r.Intn(days)}
		x.forecast = demandsOfChance(r, r.Intn(mostDemands+1), days, most)
		x.orders = demandsOfChance(r, r.Intn(mostDemands+1), days, most)
		if i%5 == 0 {
			x.back, x.ahead = mostReach, mostReach
		}
		all = append(all, x)
	}
	return all
}

// TestConsumeForecastOfChance gives the lists in other orders as well.
func TestConsumeForecastOfChance(t *testing.T) {
	r := rand.New(rand.NewSource(132))
	for _, x := range someForecasts(133) {
		want := leftByHand(x.forecast, x.orders, x.back, x.ahead)
		checkLeft(t, x.forecast, x.orders, x.back, x.ahead, want)
		checkLeft(t, shuffled(r, x.forecast), shuffled(r, x.orders), x.back, x.ahead, want)
	}
}

// TestNeverConsumedTwice checks that what is taken of an item is no more than is ordered or forecast, and is as much as can be if each order reaches all days.
func TestNeverConsumedTwice(t *testing.T) {
	for _, x := range someForecasts(134) {
		left, ok := impl.ConsumeForecast(x.forecast, x.orders, x.back, x.ahead)
		if !ok || !slices.Equal(left, sortedByHand(left)) {
			t.Fatalf("%+v: %v, %v", x, left, ok)
		}
		for _, item := range []string{"A", "AA", "B"} {
			taken := quantitiesOf(x.forecast, item) - quantitiesOf(left, item)
			most := min(quantitiesOf(x.forecast, item), quantitiesOf(x.orders, item))
			if taken < 0 || taken > most || x.back == mostReach && x.ahead == mostReach && taken != most {
				t.Errorf("%+v: %d of %s are taken, of %d", x, taken, item, most)
			}
		}
		for _, f := range left {
			i := slices.IndexFunc(x.forecast, func(before impl.Demand) bool { return before.Id == f.Id })
			if i < 0 || f.Quantity < 1 || f.Quantity > x.forecast[i].Quantity {
				t.Fatalf("%+v: %v is left", x, f)
			}
			f.Quantity = x.forecast[i].Quantity
			if f != x.forecast[i] {
				t.Errorf("%v became %v", x.forecast[i], f)
			}
		}
	}
}

// TestOrdersConsumeOneAfterTheOther checks that what earlier orders have left is all that is there for later ones.
func TestOrdersConsumeOneAfterTheOther(t *testing.T) {
	for i, x := range someForecasts(135) {
		orders := sortedByHand(x.orders)
		cut := i % (len(orders) + 1)
		first, ok := impl.ConsumeForecast(x.forecast, orders[:cut], x.back, x.ahead)
		want, allOk := impl.ConsumeForecast(x.forecast, orders, x.back, x.ahead)
		if !ok || !allOk {
			t.Fatalf("%+v: %v, %v", x, ok, allOk)
		}
		checkLeft(t, first, orders[cut:], x.back, x.ahead, want)
	}
}

// TestItemsAreConsumedApart checks that each item is left as if there were no other one.
func TestItemsAreConsumedApart(t *testing.T) {
	for _, x := range someForecasts(136) {
		left, _ := impl.ConsumeForecast(x.forecast, x.orders, x.back, x.ahead)
		for _, item := range []string{"A", "AA", "B"} {
			checkLeft(t, onlyOf(x.forecast, item), onlyOf(x.orders, item), x.back, x.ahead, onlyOf(left, item))
			checkLeft(t, onlyOf(x.forecast, item), x.orders, x.back, x.ahead, onlyOf(left, item))
		}
	}
}

// TestForecastsThatComeTrue orders what is forecast: nothing is left, however far the orders reach.
func TestForecastsThatComeTrue(t *testing.T) {
	for _, x := range someForecasts(137) {
		checkLeft(t, x.forecast, x.forecast, x.back, x.ahead, nil)
		checkLeft(t, x.forecast, x.forecast, 0, 0, nil)
	}
}

// spareDemands returns the list with demands in its unused capacity, and all of it.
func spareDemands(l []impl.Demand) ([]impl.Demand, []impl.Demand) {
	all := slices.Concat(l, demandsFrom("7777 SPARE*-1 -1/-1, 7778 A*77 3"))
	return all[:len(l)], all
}

// useDemands calls all functions of the chapter, returns what they return as a text, and overwrites it.
func useDemands(forecast []impl.Demand, orders []impl.Demand, back int, ahead int) string {
	text := fmt.Sprint(impl.AreDemands(forecast), impl.AreDemands(orders), impl.DemandUpTo(forecast, "A", 3), impl.DemandUpTo(orders, "A", mostDay))
	left, ok := impl.ConsumeForecast(forecast, orders, back, ahead)
	text += fmt.Sprint(left, ok)
	for _, l := range [][]impl.Demand{impl.SortDemands(forecast), impl.SortDemands(orders), left} {
		text += textOfDemands(l)
		l = l[:cap(l)]
		for i := range l {
			l[i] = demandFrom("-9 OVER*-9 -9/-9")
		}
	}
	return text
}

func TestDemandsLeaveTheirArguments(t *testing.T) {
	lists := [][]impl.Demand{
		nil, demandsFrom("1 A*10 3"), demandsFrom("1 A*10 3, 2 A*10 4, 3 B*4 4/1"), demandsFrom("3 A*9 7, 2 A*10 4, 1 A*11 2"), manyDemands(mostDemands),
		// lists that are not valid stay too
		manyDemands(mostDemands + 1), demandsFrom("2 A*9 7, 2 A*10 4"), demandsFrom("3 A*9 7, 2 A*0 4"),
	}
	for _, f := range lists {
		for _, o := range lists {
			forecast, allForecast := spareDemands(f)
			orders, allOrders := spareDemands(o)
			before := fmt.Sprint(allForecast, allOrders)
			for _, reach := range [][]int{{0, 0}, {1, 0}, {60, 60}, {-1, 0}, {0, 61}} {
				first := useDemands(forecast, orders, reach[0], reach[1])
				second := useDemands(forecast, orders, reach[0], reach[1])
				if first != second {
					t.Errorf("first %s, then %s", first, second)
				}
				useDemands(forecast, forecast, reach[0], reach[1])
			}
			if after := fmt.Sprint(allForecast, allOrders); after != before {
				t.Errorf("%s became %s", before, after)
			}
		}
	}
}

// TestResultsOfDemandsAreNew keeps the results of one call while those of the next ones are overwritten.
func TestResultsOfDemandsAreNew(t *testing.T) {
	forecast, orders := manyDemands(mostDemands), demandsFrom("9 A*14 2, 8 B*3 3")
	sorted := impl.SortDemands(forecast)
	left, ok := impl.ConsumeForecast(sorted, orders, 2, 2)
	before := fmt.Sprint(sorted, left, ok)
	for range 3 {
		useDemands(forecast, orders, 2, 2)
		useDemands(sorted, orders, 2, 2)
		useDemands(left, sorted, 60, 60)
	}
	if after := fmt.Sprint(sorted, left, ok); after != before || !ok {
		t.Errorf("%s became %s", before, after)
	}
	// arguments that are overwritten leave the results as they are
	for i := range forecast {
		forecast[i] = impl.Demand{}
	}
	orders[0], orders[1] = impl.Demand{}, impl.Demand{}
	if after := fmt.Sprint(sorted, left, ok); after != before {
		t.Errorf("%s became %s", before, after)
	}
}
