package tests

import (
	"fmt"
	"math"
	"math/rand"
	"slices"
	"strings"
	"testing"

	"loop.example/g03407/impl"
)

// The largest numbers that the document allows.
const (
	mostSteps   = 6
	mostMinutes = 1000
	mostFlow    = 200
)

func TestConstantsOfRoutings(t *testing.T) {
	if impl.MaxSteps != mostSteps || impl.MaxMinutes != mostMinutes {
		t.Errorf("MaxSteps = %d, MaxMinutes = %d", impl.MaxSteps, impl.MaxMinutes)
	}
}

// stepFrom returns the step of a text such as SAW 10 2.
func stepFrom(s string) impl.Step {
	words := strings.Fields(s)
	return impl.Step{Center: words[0], Setup: numberIn(words[1]), Run: numberIn(words[2])}
}

// routingFrom returns the routing with the steps of a text with commas between them.
func routingFrom(s string) impl.Routing {
	r := impl.Routing{Item: "A"}
	for _, word := range strings.Split(s, ", ") {
		r.Steps = append(r.Steps, stepFrom(word))
	}
	return r
}

// evenRouting returns a routing with n steps that are alike.
func evenRouting(item string, n int) impl.Routing {
	return impl.Routing{Item: item, Steps: slices.Repeat([]impl.Step{{Center: "SAW", Setup: 3, Run: 2}}, n)}
}

// manyRoutings returns n routings whose items ascend.
func manyRoutings(n int) []impl.Routing {
	var l []impl.Routing
	for i, x := range manyItems(n) {
		l = append(l, evenRouting(x.Code, i%mostSteps+1))
	}
	return l
}

// routingsOf returns routings with these items.
func routingsOf(items ...string) []impl.Routing {
	var l []impl.Routing
	for _, item := range items {
		l = append(l, evenRouting(item, 1))
	}
	return l
}

// someSteps returns valid steps: without minutes, with a setup or with work on pieces alone, and with both.
func someSteps() []impl.Step {
	var l []impl.Step
	for _, setup := range []int{0, 1, 2, 7, 30, mostMinutes - 1, mostMinutes} {
		for _, run := range []int{0, 1, 2, 5, 30, mostMinutes - 1, mostMinutes} {
			l = append(l, impl.Step{Center: "SAW", Setup: setup, Run: run})
		}
	}
	for _, code := range []string{"A", "Z", "A-", "A1", "ABCDEFGH", "A-------", "A0000000"} {
		l = append(l, impl.Step{Center: code}, impl.Step{Center: code, Setup: 1, Run: 2})
	}
	return l
}

// noSteps returns steps that are not valid, each for one reason.
func noSteps() []impl.Step {
	l := []impl.Step{{}, {Setup: 1, Run: 1}}
	for _, code := range noCodes() {
		l = append(l, impl.Step{Center: code}, impl.Step{Center: code, Setup: 1, Run: 2})
	}
	for _, n := range append(farNumbers(), -1, -2, mostMinutes+1, mostMinutes+2) {
		for _, other := range []int{0, 1, mostMinutes} {
			l = append(l, impl.Step{Center: "SAW", Setup: n, Run: other}, impl.Step{Center: "SAW", Setup: other, Run: n})
		}
	}
	return append(l, impl.Step{Center: "SAW", Setup: -5, Run: 5}, impl.Step{Center: "SAW", Setup: 5, Run: -1})
}

// stepsOfChance returns steps of which many are alike or take no time, with at most so many minutes.
func stepsOfChance(r *rand.Rand, most int) []impl.Step {
	l := make([]impl.Step, 1+r.Intn(mostSteps))
	for i := range l {
		l[i] = impl.Step{Center: string(rune('A' + r.Intn(4))), Setup: r.Intn(most + 1), Run: r.Intn(most + 1)}
		if r.Intn(4) == 0 {
			l[i].Setup = 0
		}
		if r.Intn(4) == 0 {
			l[i].Run = 0
		}
	}
	return l
}

// someRoutings returns valid routings: by hand, with each step alone, and by chance.
func someRoutings() []impl.Routing {
	var l []impl.Routing
	for _, s := range []string{
		"SAW 10 2, MILL 5 4", "MILL 5 4, SAW 10 2", "SAW 10 2, SAW 10 2, SAW 10 2", "SAW 0 1", "SAW 1 0",
		// steps without minutes, alone and among others
		"SAW 0 0", "SAW 0 0, MILL 0 0", "SAW 0 0, SAW 0 0, SAW 0 0, SAW 0 0, SAW 0 0, SAW 0 0",
		"SAW 0 0, MILL 5 4", "SAW 5 4, MILL 0 0", "SAW 3 1, MILL 0 0, OVEN 2 5", "SAW 7 0, MILL 0 3", "SAW 0 3, MILL 7 0, OVEN 0 0", "SAW 9 0, MILL 8 0",
		// the most minutes
		"SAW 1000 1000", "SAW 1000 1000, MILL 1000 1000, OVEN 1000 1000, PRESS 1000 1000, PAINT 1000 1000, PACK 1000 1000",
		"SAW 1000 0, MILL 0 1000", "SAW 0 1000, MILL 1000 0", "SAW 0 0, MILL 0 0, OVEN 0 0, PRESS 0 0, PAINT 0 0, PACK 1000 1000",
		"SAW 1 6, MILL 2 5, OVEN 3 4, PRESS 4 3, PAINT 5 2, PACK 6 1", "SAW 6 1, MILL 5 2, OVEN 4 3, PRESS 3 4, PAINT 2 5, PACK 1 6",
	} {
		l = append(l, routingFrom(s))
	}
	for _, x := range someSteps() {
		l = append(l, impl.Routing{Item: "ABCDEFGH", Steps: []impl.Step{x}})
	}
	r := rand.New(rand.NewSource(12))
	for i := range 200 {
		l = append(l, impl.Routing{Item: "Z-9", Steps: stepsOfChance(r, []int{1, 3, 20, mostMinutes}[i%4])})
	}
	return l
}

// noRoutings returns routings that are not valid, each for one reason.
func noRoutings() []impl.Routing {
	l := []impl.Routing{{}, {Item: "A"}, {Item: "A", Steps: []impl.Step{}}, {Item: "A", Steps: []impl.Step{{}}}, {Steps: evenRouting("A", 2).Steps}}
	for _, n := range []int{mostSteps + 1, mostSteps + 2, 300} {
		l = append(l, evenRouting("A", n))
	}
	for _, code := range noCodes() {
		l = append(l, evenRouting(code, 1), evenRouting(code, mostSteps))
	}
	for _, x := range noSteps() {
		// alone, and as the first, a middle or the last one
		for _, n := range []int{1, 2, 3, mostSteps} {
			for _, i := range []int{0, n / 2, n - 1} {
				r := evenRouting("A", n)
				r.Steps[i] = x
				l = append(l, r)
			}
		}
	}
	return l
}

// someLots returns quantities that are valid.
func someLots() []int {
	return []int{1, 2, 3, 4, 5, 7, 10, 99, 199, 200, 201, 1000, 33333, mostQuantity - 1, mostQuantity}
}

// noLots returns quantities that are not.
func noLots() []int {
	return append(farNumbers(), 0, -1, -2, -mostQuantity, mostQuantity+1, mostQuantity+2, 2*mostQuantity)
}

// timeByHand sets a step up, and works on one piece after the other.
func timeByHand(x impl.Step, quantity int) int {
	minutes := x.Setup
	for range quantity {
		minutes += x.Run
	}
	return minutes
}

// timesByHand returns the times of all steps.
func timesByHand(r impl.Routing, quantity int) []int {
	var l []int
	for _, x := range r.Steps {
		l = append(l, timeByHand(x, quantity))
	}
	return l
}

// slowestByHand looks for a step that takes longer than all before it, and no less than all behind it.
func slowestByHand(times []int) int {
	for i := range times {
		isFirst := true
		for j := range times {
			if times[j] > times[i] || times[j] == times[i] && j < i {
				isFirst = false
			}
		}
		if isFirst {
			return i
		}
	}
	return -1
}

// flowByHand takes the pieces through the steps one after the other: each waits for itself and for the piece before it.
func flowByHand(steps []impl.Step, quantity int) int {
	ready := make([]int, len(steps))
	end := 0
	for range quantity {
		end = 0
		for i, x := range steps {
			end = max(end, ready[i]) + x.Run
			ready[i] = end
		}
	}
	return end
}

// setupsOf returns the minutes of all setups together.
func setupsOf(r impl.Routing) int {
	sum := 0
	for _, x := range r.Steps {
		sum += x.Setup
	}
	return sum
}

// wayOf returns the minutes of one piece at all steps, and at the longest one.
func wayOf(r impl.Routing) (int, int) {
	sum, longest := 0, 0
	for _, x := range r.Steps {
		sum += x.Run
		longest = max(longest, x.Run)
	}
	return sum, longest
}

func checkStepTime(t *testing.T, x impl.Step, quantity int, want int) {
	t.Helper()
	if n, ok := impl.StepTime(x, quantity); n != want || !ok {
		t.Errorf("StepTime(%v, %d) = %d, %v, not %d", x, quantity, n, ok, want)
	}
}

func checkRoutingTime(t *testing.T, r impl.Routing, quantity int, want int) {
	t.Helper()
	if n, ok := impl.RoutingTime(r, quantity); n != want || !ok {
		t.Errorf("RoutingTime(%v, %d) = %d, %v, not %d", r, quantity, n, ok, want)
	}
}

func checkSlowestStep(t *testing.T, r impl.Routing, quantity int, want int) {
	t.Helper()
	if i := impl.SlowestStep(r, quantity); i != want {
		t.Errorf("SlowestStep(%v, %d) = %d, not %d", r, quantity, i, want)
	}
}

func checkFlowTime(t *testing.T, r impl.Routing, quantity int, want int) {
	t.Helper()
	if n, ok := impl.FlowTime(r, quantity); n != want || !ok {
		t.Errorf("FlowTime(%v, %d) = %d, %v, not %d", r, quantity, n, ok, want)
	}
}

func checkNoStepTime(t *testing.T, x impl.Step, quantity int) {
	t.Helper()
	if n, ok := impl.StepTime(x, quantity); n != 0 || ok {
		t.Errorf("StepTime(%v, %d) = %d, %v", x, quantity, n, ok)
	}
}

// checkNoLot checks that a lot has no times.
func checkNoLot(t *testing.T, r impl.Routing, quantity int) {
	t.Helper()
	if n, ok := impl.RoutingTime(r, quantity); n != 0 || ok {
		t.Errorf("RoutingTime(%v, %d) = %d, %v", r, quantity, n, ok)
	}
	if i := impl.SlowestStep(r, quantity); i != -1 {
		t.Errorf("SlowestStep(%v, %d) = %d", r, quantity, i)
	}
}

func checkNoFlow(t *testing.T, r impl.Routing, quantity int) {
	t.Helper()
	if n, ok := impl.FlowTime(r, quantity); n != 0 || ok {
		t.Errorf("FlowTime(%v, %d) = %d, %v", r, quantity, n, ok)
	}
}

func TestIsStep(t *testing.T) {
	for _, x := range someSteps() {
		if !impl.IsStep(x) {
			t.Errorf("%v is no step", x)
		}
	}
	for _, x := range noSteps() {
		if impl.IsStep(x) {
			t.Errorf("%v is a step", x)
		}
		for _, quantity := range []int{1, 2, mostFlow, mostQuantity, 0, -1} {
			checkNoStepTime(t, x, quantity)
		}
	}
}

// TestMinutesOfSteps goes through all numbers of minutes up to beyond the bounds.
func TestMinutesOfSteps(t *testing.T) {
	for n := -3; n <= mostMinutes+3; n++ {
		want := n >= 0 && n <= 1000
		for _, x := range []impl.Step{{Center: "SAW", Setup: n}, {Center: "SAW", Run: n}, {Center: "SAW", Setup: n, Run: n}} {
			r := impl.Routing{Item: "A", Steps: []impl.Step{x}}
			if impl.IsStep(x) != want || impl.IsRouting(r) != want || impl.AreRoutings([]impl.Routing{r}) != want {
				t.Errorf("%v is a step: %v, and a routing: %v", x, impl.IsStep(x), impl.IsRouting(r))
			}
		}
	}
}

func TestIsRouting(t *testing.T) {
	for _, r := range someRoutings() {
		if !impl.IsRouting(r) {
			t.Errorf("%v is no routing", r)
		}
	}
	for _, r := range noRoutings() {
		if impl.IsRouting(r) {
			t.Errorf("%v is a routing", r)
		}
		for _, quantity := range []int{1, 2, mostFlow, 0, -1} {
			checkNoLot(t, r, quantity)
			checkNoFlow(t, r, quantity)
		}
		checkNoLot(t, r, mostQuantity)
	}
}

func TestNumberOfSteps(t *testing.T) {
	for n := range 40 {
		r := evenRouting("A", n)
		if impl.IsRouting(r) != (n >= 1 && n <= 6) {
			t.Errorf("a routing with %d steps is one: %v", n, impl.IsRouting(r))
		}
	}
}

func TestAreRoutings(t *testing.T) {
	for _, l := range [][]impl.Routing{
		nil, {}, manyRoutings(1), manyRoutings(2), manyRoutings(mostItems - 1), manyRoutings(mostItems),
		routingsOf("A", "B"), routingsOf("A", "A-", "A0", "AA", "AB", "B"), routingsOf("A", "AAAAAAAA", "B"), routingsOf("A9", "AA", "B-", "B0"),
		// routings without minutes, and those that are alike but for their items
		{{Item: "A", Steps: []impl.Step{{Center: "SAW"}}}, {Item: "SAW", Steps: []impl.Step{{Center: "SAW"}}}},
	} {
		if !impl.AreRoutings(l) {
			t.Errorf("%v are no routings", l)
		}
	}
	for _, l := range [][]impl.Routing{
		manyRoutings(mostItems + 1), manyRoutings(mostItems + 2), manyRoutings(300),
		// items that are there twice, next to each other or not
		routingsOf("A", "A"), routingsOf("A", "B", "B"), routingsOf("A", "A", "B"), routingsOf("A", "B", "A"), append(manyRoutings(11), manyRoutings(11)[10]),
		{evenRouting("A", 1), evenRouting("A", 2)},
		// items that descend
		routingsOf("B", "A"), routingsOf("A", "C", "B"), routingsOf("C", "A", "B"), routingsOf("AA", "A"), routingsOf("AA", "A9"), routingsOf("A0", "A-"), routingsOf("B", "AAAAAAAA"),
	} {
		if impl.AreRoutings(l) {
			t.Errorf("%v are routings", l)
		}
	}
}

// TestNoRoutingsAmongRoutings has each routing that is not valid first, in the middle and last.
func TestNoRoutingsAmongRoutings(t *testing.T) {
	for _, r := range someRoutings() {
		if !impl.AreRoutings([]impl.Routing{r}) {
			t.Errorf("%v alone are no routings", r)
		}
	}
	for _, r := range noRoutings() {
		if impl.AreRoutings([]impl.Routing{r}) {
			t.Errorf("%v alone are routings", r)
		}
		if !impl.IsCode(r.Item) {
			continue
		}
		for i, item := range []string{"A", "B", "C"} {
			l := routingsOf("A", "B", "C")
			l[i] = impl.Routing{Item: item, Steps: r.Steps}
			if impl.AreRoutings(l) {
				t.Errorf("%v are routings", l)
			}
		}
	}
	for _, code := range noCodes() {
		for i := range 3 {
			l := routingsOf("A", "B", "C")
			l[i].Item = code
			if impl.AreRoutings(l) {
				t.Errorf("%v are routings", l)
			}
		}
	}
}

// TestOrderOfRoutings shuffles routings: only one order of them is right.
func TestOrderOfRoutings(t *testing.T) {
	r := rand.New(rand.NewSource(121))
	for range 300 {
		l := manyRoutings(2 + r.Intn(mostItems-1))
		r.Shuffle(len(l), func(i int, j int) { l[i], l[j] = l[j], l[i] })
		ordered := slices.IsSortedFunc(l, func(a impl.Routing, b impl.Routing) int { return strings.Compare(a.Item, b.Item) })
		if impl.AreRoutings(l) != ordered {
			t.Errorf("AreRoutings(%v) = %v", l, !ordered)
		}
	}
}

func TestFindRouting(t *testing.T) {
	for n := range mostItems + 1 {
		l := manyRoutings(n)
		for i, r := range l {
			if got := impl.FindRouting(l, r.Item); got != i {
				t.Errorf("FindRouting(%v, %q) = %d, not %d", l, r.Item, got, i)
			}
		}
		for _, item := range append(noCodes(), "NONE", "I", "IAAA", "SAW", "A", "iaa") {
			if got := impl.FindRouting(l, item); got != -1 {
				t.Errorf("FindRouting(%v, %q) = %d", l, item, got)
			}
		}
	}
}

// TestFindRoutingAmongAny has routings that are not valid, or of one item twice, or too many of them.
func TestFindRoutingAmongAny(t *testing.T) {
	l := routingsOf("B", "A", "", "B", "a b", "", "A", "ABCDEFGHIJ", "\xff")
	l[0].Steps, l[1].Steps[0].Run, l[6].Steps[0].Center = nil, math.MinInt, ""
	for item, want := range map[string]int{"B": 0, "A": 1, "": 2, "a b": 4, "ABCDEFGHIJ": 7, "\xff": 8, "ABCDEFGH": -1, "C": -1, "b": -1, " ": -1, "SAW": -1} {
		if got := impl.FindRouting(l, item); got != want {
			t.Errorf("FindRouting of %q is %d, not %d", item, got, want)
		}
	}
	long := manyRoutings(600)
	for _, i := range []int{0, mostItems, 300, 599} {
		if got := impl.FindRouting(long, long[i].Item); got != i {
			t.Errorf("FindRouting of %q is %d, not %d", long[i].Item, got, i)
		}
	}
	if got := impl.FindRouting(nil, ""); got != -1 {
		t.Errorf("FindRouting among none is %d", got)
	}
	if got := impl.FindRouting([]impl.Routing{{}}, ""); got != 0 {
		t.Errorf("FindRouting of the zero value is %d", got)
	}
}

// TestStepTime works on one piece after the other.
func TestStepTime(t *testing.T) {
	for _, x := range someSteps() {
		for _, quantity := range someLots() {
			checkStepTime(t, x, quantity, timeByHand(x, quantity))
		}
	}
}

// TestTimesOfRoutings adds up the steps, piece by piece.
func TestTimesOfRoutings(t *testing.T) {
	for _, r := range someRoutings() {
		for _, quantity := range []int{1, 2, 3, 10, 201, mostQuantity} {
			times := timesByHand(r, quantity)
			checkRoutingTime(t, r, quantity, totalOf(times))
			checkSlowestStep(t, r, quantity, slowestByHand(times))
		}
	}
}

func TestQuantitiesOfLotsOutOfRange(t *testing.T) {
	for _, quantity := range noLots() {
		for _, x := range someSteps() {
			checkNoStepTime(t, x, quantity)
		}
		for _, r := range someRoutings() {
			checkNoLot(t, r, quantity)
		}
	}
}

func TestQuantitiesOfFlowsOutOfRange(t *testing.T) {
	for _, r := range someRoutings() {
		for _, quantity := range append(noLots(), mostFlow+1, mostFlow+2, 1000, mostQuantity) {
			checkNoFlow(t, r, quantity)
		}
		for _, quantity := range []int{1, mostFlow - 1, mostFlow} {
			if _, ok := impl.FlowTime(r, quantity); !ok {
				t.Errorf("FlowTime(%v, %d) is false", r, quantity)
			}
		}
	}
}

// TestLotsMadeTogetherSaveTheirSetups checks that two lots take as long as both of them together and all setups once more.
func TestLotsMadeTogetherSaveTheirSetups(t *testing.T) {
	for _, r := range someRoutings() {
		for _, lots := range [][]int{{1, 1}, {1, 2}, {2, 1}, {7, 5}, {40, 60}, {1, mostQuantity - 1}, {mostQuantity - 1, 1}, {mostQuantity / 2, mostQuantity / 2}} {
			a, aOk := impl.RoutingTime(r, lots[0])
			b, bOk := impl.RoutingTime(r, lots[1])
			both, ok := impl.RoutingTime(r, lots[0]+lots[1])
			if !aOk || !bOk || !ok || a+b-both != setupsOf(r) {
				t.Errorf("%v: lots of %v take %d and %d, and together %d", r, lots, a, b, both)
			}
		}
		single, _ := impl.RoutingTime(r, 1)
		way, _ := wayOf(r)
		if single != setupsOf(r)+way {
			t.Errorf("%v: one piece takes %d", r, single)
		}
	}
}

// TestStepsMadeTogetherSaveTheirSetups does the same for each step.
func TestStepsMadeTogetherSaveTheirSetups(t *testing.T) {
	for _, x := range someSteps() {
		for _, quantity := range []int{1, 2, 9, 5000, mostQuantity / 2} {
			one, _ := impl.StepTime(x, quantity)
			both, ok := impl.StepTime(x, 2*quantity)
			if !ok || 2*one-both != x.Setup {
				t.Errorf("%v: a lot of %d takes %d, and one twice as large %d", x, quantity, one, both)
			}
		}
	}
}

// TestSlowestSteps has steps of which several take longest, and such that hang on the quantity.
func TestSlowestSteps(t *testing.T) {
	for _, k := range []struct {
		steps    string
		quantity int
		want     int
	}{
		{"SAW 10 2, MILL 5 4", 1, 0}, {"SAW 10 2, MILL 5 4", 2, 0}, {"SAW 10 2, MILL 5 4", 3, 1}, {"SAW 10 2, MILL 5 4", mostQuantity, 1},
		{"MILL 5 4, SAW 10 2", 1, 1}, {"MILL 5 4, SAW 10 2", 2, 1}, {"MILL 5 4, SAW 10 2", 3, 0}, {"MILL 5 4, SAW 10 2", mostQuantity, 0},
		// a long setup against long work on each piece: they take equally long for one quantity only
		{"SAW 1000 0, MILL 0 10", 99, 0}, {"SAW 1000 0, MILL 0 10", 100, 0}, {"SAW 1000 0, MILL 0 10", 101, 1},
		{"MILL 0 10, SAW 1000 0", 99, 1}, {"MILL 0 10, SAW 1000 0", 100, 0}, {"MILL 0 10, SAW 1000 0", 101, 0},
		{"SAW 1000 999, MILL 0 1000", 999, 0}, {"SAW 1000 999, MILL 0 1000", 1000, 0}, {"SAW 1000 999, MILL 0 1000", 1001, 1},
		{"SAW 30 0, MILL 20 2, OVEN 0 5", 4, 0}, {"SAW 30 0, MILL 20 2, OVEN 0 5", 5, 0}, {"SAW 30 0, MILL 20 2, OVEN 0 5", 6, 1}, {"SAW 30 0, MILL 20 2, OVEN 0 5", 7, 2},
		// steps that take equally long, whatever they need their minutes for
		{"SAW 1 1, SAW 1 1", 1, 0}, {"SAW 4 1, MILL 3 2, OVEN 2 3", 1, 0}, {"SAW 2 2, MILL 3 3, OVEN 3 3, PRESS 3 3", 5, 1}, {"SAW 1 1, MILL 2 2, OVEN 0 4, PRESS 3 1", 1, 1},
		{"SAW 9 0, MILL 9 0, OVEN 8 0, PRESS 9 0", 7, 0}, {"SAW 0 2, MILL 0 3, OVEN 0 1, PRESS 0 3, PAINT 0 3, PACK 0 0", mostQuantity, 1},
		// the slowest one first, in the middle and last
		{"SAW 0 9, MILL 0 1, OVEN 0 1", 3, 0}, {"SAW 0 1, MILL 0 9, OVEN 0 1", 3, 1}, {"SAW 0 1, MILL 0 1, OVEN 0 9", 3, 2}, {"SAW 0 0, MILL 0 0, OVEN 0 0, PRESS 0 0, PAINT 0 0, PACK 0 1", 1, 5},
		// steps without minutes, and one step
		{"SAW 0 0", 1, 0}, {"SAW 0 0, MILL 0 0, OVEN 0 0", 5, 0}, {"SAW 0 0, MILL 1 0, OVEN 0 0", mostQuantity, 1}, {"SAW 5 5", mostQuantity, 0},
	} {
		checkSlowestStep(t, routingFrom(k.steps), k.quantity, k.want)
	}
}

// TestRoutingCases has times that are reckoned by hand.
func TestRoutingCases(t *testing.T) {
	for _, k := range []struct {
		steps       string
		quantity    int
		times, flow int
	}{
		{"SAW 10 2, MILL 5 4", 1, 21, 6}, {"SAW 10 2, MILL 5 4", 2, 27, 10}, {"SAW 10 2, MILL 5 4", 3, 33, 14}, {"SAW 10 2, MILL 5 4", 200, 1215, 802},
		{"MILL 5 4, SAW 10 2", 1, 21, 6}, {"MILL 5 4, SAW 10 2", 3, 33, 14},
		{"SAW 7 3", 1, 10, 3}, {"SAW 7 3", 4, 19, 12}, {"SAW 7 3, SAW 7 3, SAW 7 3", 4, 57, 18},
		{"SAW 0 1, MILL 0 5, OVEN 0 2", 3, 24, 18}, {"SAW 0 5, MILL 0 1, OVEN 0 5", 2, 22, 16}, {"SAW 0 2, MILL 0 5, OVEN 0 5, PRESS 0 1", 10, 130, 58},
		// steps without minutes, with a setup alone and with work on pieces alone
		{"SAW 0 0", 1, 0, 0}, {"SAW 0 0", 200, 0, 0}, {"SAW 0 0, MILL 0 0, OVEN 0 0", 7, 0, 0}, {"SAW 9 0", 1, 9, 0}, {"SAW 9 0", 200, 9, 0}, {"SAW 9 0, MILL 8 0", 3, 17, 0},
		{"SAW 0 4", 1, 4, 4}, {"SAW 0 4", 3, 12, 12}, {"SAW 9 0, MILL 0 4", 3, 21, 12}, {"SAW 0 4, MILL 9 0", 3, 21, 12}, {"SAW 0 4, MILL 0 0, OVEN 0 3", 3, 21, 15},
		{"SAW 1000 1000", 1, 2000, 1000}, {"SAW 1000 1000", 200, 201000, 200000},
		{"SAW 1000 1000, MILL 1000 1000, OVEN 1000 1000, PRESS 1000 1000, PAINT 1000 1000, PACK 1000 1000", 200, 1206000, 205000},
	} {
		r := routingFrom(k.steps)
		checkRoutingTime(t, r, k.quantity, k.times)
		checkFlowTime(t, r, k.quantity, k.flow)
	}
	longest := impl.Routing{Item: "A", Steps: slices.Repeat([]impl.Step{stepFrom("SAW 1000 1000")}, mostSteps)}
	checkRoutingTime(t, longest, mostQuantity, 600006000)
	checkStepTime(t, longest.Steps[0], mostQuantity, 100001000)
	checkStepTime(t, stepFrom("SAW 0 0"), mostQuantity, 0)
	checkStepTime(t, stepFrom("SAW 1000 0"), mostQuantity, 1000)
	checkStepTime(t, stepFrom("SAW 0 1000"), mostQuantity, 100000000)
	checkStepTime(t, stepFrom("SAW 10 2"), 3, 16)
	checkStepTime(t, stepFrom("SAW 10 2"), 1, 12)
}

// TestFlowPieceByPiece takes each piece through each step.
func TestFlowPieceByPiece(t *testing.T) {
	for _, r := range someRoutings() {
		for _, quantity := range []int{1, 2, 3, 4, 5, 17, mostFlow - 1, mostFlow} {
			checkFlowTime(t, r, quantity, flowByHand(r.Steps, quantity))
		}
	}
}

// TestSmallFlows has all runs of up to 4 steps with up to 3 minutes.
func TestSmallFlows(t *testing.T) {
	// The first list is empty, and so is no routing.
	for _, runs := range listsOver([]int{0, 1, 2, 3}, 4)[1:] {
		r := evenRouting("A", len(runs))
		for i, run := range runs {
			r.Steps[i].Run = run
		}
		for quantity := 1; quantity <= 6; quantity++ {
			checkFlowTime(t, r, quantity, flowByHand(r.Steps, quantity))
		}
	}
}

// TestPiecesFlowAsTheLongestStepAllows checks that each further piece comes later by the longest step.
func TestPiecesFlowAsTheLongestStepAllows(t *testing.T) {
	for _, r := range someRoutings() {
		way, longest := wayOf(r)
		for quantity := 1; quantity <= mostFlow; quantity++ {
			checkFlowTime(t, r, quantity, way+(quantity-1)*longest)
		}
	}
}

// TestFlowsOfOneStep checks that pieces then follow each other as in a lot without a setup.
func TestFlowsOfOneStep(t *testing.T) {
	for _, x := range someSteps() {
		r := impl.Routing{Item: "A", Steps: []impl.Step{x}}
		for quantity := 1; quantity <= mostFlow; quantity++ {
			lot, _ := impl.StepTime(x, quantity)
			checkFlowTime(t, r, quantity, lot-x.Setup)
		}
	}
}

// TestSetupsTakeNoTimeInFlows changes the setups: the flow stays, and is never slower than the lot.
func TestSetupsTakeNoTimeInFlows(t *testing.T) {
	for _, r := range someRoutings() {
		for _, quantity := range []int{1, 2, 50, mostFlow} {
			want, ok := impl.FlowTime(r, quantity)
			for _, setup := range []int{0, 1, mostMinutes} {
				for i := range r.Steps {
					other := impl.Routing{Item: r.Item, Steps: slices.Clone(r.Steps)}
					other.Steps[i].Setup = setup
					checkFlowTime(t, other, quantity, want)
				}
			}
			if lot, lotOk := impl.RoutingTime(r, quantity); !ok || !lotOk || want > lot-setupsOf(r) {
				t.Errorf("%v: the flow of %d takes %d, and the lot %d", r, quantity, want, lot)
			}
		}
	}
}

// TestOrderOfSteps turns the steps around: neither lots nor flows take longer or shorter.
func TestOrderOfSteps(t *testing.T) {
	for _, r := range someRoutings() {
		turned := impl.Routing{Item: "B", Steps: slices.Clone(r.Steps)}
		slices.Reverse(turned.Steps)
		for _, quantity := range []int{1, 3, mostFlow} {
			lot, _ := impl.RoutingTime(r, quantity)
			flow, _ := impl.FlowTime(r, quantity)
			checkRoutingTime(t, turned, quantity, lot)
			checkFlowTime(t, turned, quantity, flow)
		}
	}
}

// TestRoutingsStayAsTheyAre checks that routings and their steps are not modified, nor is their unused capacity.
func TestRoutingsStayAsTheyAre(t *testing.T) {
	steps := append(routingFrom("SAW 10 2, MILL 5 4, OVEN 0 0, PRESS 3 9").Steps, stepFrom("KEPT -1 -2"), stepFrom("KEPT 7 -7"))
	l := append(manyRoutings(4), impl.Routing{Item: "KEPT", Steps: steps}, impl.Routing{})
	before := fmt.Sprint(l, steps)
	for n := range len(steps) + 1 {
		l[1].Steps = steps[:n]
		kept := fmt.Sprint(l)
		for range 2 {
			impl.IsRouting(l[1])
			impl.AreRoutings(l[:4])
			impl.AreRoutings(l)
			impl.FindRouting(l[:4], "KEPT")
			impl.FindRouting(l[:4], l[3].Item)
			for _, quantity := range []int{-1, 0, 1, 3, mostFlow, mostQuantity} {
				impl.RoutingTime(l[1], quantity)
				impl.SlowestStep(l[1], quantity)
				impl.FlowTime(l[1], quantity)
			}
		}
		if after := fmt.Sprint(l); after != kept {
			t.Errorf("%s became %s", kept, after)
		}
	}
	l[1].Steps = manyRoutings(2)[1].Steps
	if after := fmt.Sprint(l, steps); after != before {
		t.Errorf("%s became %s", before, after)
	}
}
