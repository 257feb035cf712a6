package tests

import (
	"math"
	"slices"
	"testing"

	"loop.example/g03407/impl"
)

const (
	mostDay        = 999
	mostExceptions = 20
	mostHours      = 24
)

func TestLimitsOfCalendars(t *testing.T) {
	if impl.MaxDay != mostDay || impl.MaxExceptions != mostExceptions {
		t.Errorf("the limits are %d and %d", impl.MaxDay, impl.MaxExceptions)
	}
}

// fiveDays is a week of five days of work and two free ones.
func fiveDays() []int { return []int{8, 8, 8, 8, 8, 0, 0} }

// equalDays is a week with the same hours on all days.
func equalDays(hours int) []int { return slices.Repeat([]int{hours}, 7) }

// exceptionsFrom returns n exceptions with the same hours, one every step days from a day on.
func exceptionsFrom(day int, n int, step int, hours int) []impl.Exception {
	var l []impl.Exception
	for i := range n {
		l = append(l, impl.Exception{Day: day + i*step, Hours: hours})
	}
	return l
}

// someCalendars returns calendars with much work, with little, and with none, and with exceptions at both ends.
func someCalendars() []impl.Calendar {
	mixed := []impl.Exception{{Day: 0, Hours: 0}, {Day: 2, Hours: 0}, {Day: 5, Hours: 4}, {Day: 6, Hours: 0}, {Day: 7, Hours: mostHours}, {Day: 500, Hours: 1}, {Day: 998, Hours: 3}, {Day: mostDay, Hours: 5}}
	return []impl.Calendar{
		{Week: fiveDays()},
		{Week: fiveDays(), Exceptions: []impl.Exception{{Day: 2, Hours: 0}, {Day: 5, Hours: 4}}},
		{Week: fiveDays(), Exceptions: mixed},
		{Week: []int{1, 2, 3, 4, 5, 6, 7}, Exceptions: mixed},
		{Week: []int{0, 0, 0, 1, 0, 0, 0}},
		{Week: []int{0, 0, 0, 0, 0, 0, mostHours}, Exceptions: exceptionsFrom(6, mostExceptions, 7, 0)},
		{Week: equalDays(mostHours)},
		{Week: equalDays(1), Exceptions: []impl.Exception{{Day: mostDay, Hours: 0}}},
		{Week: equalDays(9), Exceptions: exceptionsFrom(0, mostExceptions, 1, 0)},
		{Week: equalDays(9), Exceptions: exceptionsFrom(980, mostExceptions, 1, 0)},
		// no work but on exceptions
		{Week: equalDays(0), Exceptions: []impl.Exception{{Day: 0, Hours: 1}}},
		{Week: equalDays(0), Exceptions: []impl.Exception{{Day: mostDay, Hours: mostHours}}},
		{Week: equalDays(0), Exceptions: []impl.Exception{{Day: 0, Hours: 2}, {Day: mostDay, Hours: 3}}},
		{Week: equalDays(0), Exceptions: exceptionsFrom(10, mostExceptions, 50, 6)},
		{Week: equalDays(0), Exceptions: exceptionsFrom(49, mostExceptions, 50, mostHours)},
		// no work at all
		{Week: equalDays(0)},
		{Week: equalDays(0), Exceptions: exceptionsFrom(0, mostExceptions, 1, 0)},
	}
}

// noCalendars returns calendars that are not valid; each breaks one rule.
func noCalendars() []impl.Calendar {
	l := []impl.Calendar{
		{},
		// weeks that are too short or too long
		{Week: []int{8}}, {Week: equalDays(8)[:6]}, {Week: equalDays(8)[1:]}, {Week: append(equalDays(8), 8)}, {Week: append(equalDays(8), 0)}, {Week: slices.Repeat(equalDays(8), 2)},
		{Exceptions: []impl.Exception{{Day: 1, Hours: 8}}},
		{Week: equalDays(0)[:6]}, {Week: equalDays(0)[1:]},
		// too many exceptions
		{Week: fiveDays(), Exceptions: exceptionsFrom(0, mostExceptions+1, 1, 8)},
		{Week: fiveDays(), Exceptions: exceptionsFrom(0, mostExceptions+1, 40, 0)},
		{Week: fiveDays(), Exceptions: exceptionsFrom(0, 200, 5, 8)},
		// exceptions that do not ascend
		{Week: fiveDays(), Exceptions: []impl.Exception{{Day: 3, Hours: 8}, {Day: 3, Hours: 8}}},
		{Week: fiveDays(), Exceptions: []impl.Exception{{Day: 0, Hours: 8}, {Day: 0, Hours: 4}}},
		{Week: fiveDays(), Exceptions: []impl.Exception{{Day: 4, Hours: 8}, {Day: 3, Hours: 8}}},
		{Week: fiveDays(), Exceptions: []impl.Exception{{Day: 1, Hours: 8}, {Day: 9, Hours: 8}, {Day: 8, Hours: 8}}},
		{Week: fiveDays(), Exceptions: []impl.Exception{{Day: 1, Hours: 8}, {Day: 9, Hours: 8}, {Day: 1, Hours: 8}}},
		{Week: fiveDays(), Exceptions: []impl.Exception{{Day: mostDay, Hours: 8}, {Day: 0, Hours: 8}}},
		{Week: fiveDays(), Exceptions: exceptionsFrom(0, mostExceptions, 0, 8)},
	}
	// days that are none, as the first and as the last exception
	for _, day := range []int{-1, -7, mostDay + 1, 7000, math.MaxInt, math.MinInt} {
		l = append(l, impl.Calendar{Week: fiveDays(), Exceptions: []impl.Exception{{Day: day, Hours: 8}}})
		ends := []impl.Exception{{Day: min(day, 3), Hours: 8}, {Day: max(day, 3), Hours: 8}}
		l = append(l, impl.Calendar{Week: fiveDays(), Exceptions: ends})
	}
	// hours that are none, on each day of the week and on an exception
	for _, hours := range []int{-1, mostHours + 1, -8, 100, math.MaxInt, math.MinInt} {
		for d := range 7 {
			week := fiveDays()
			week[d] = hours
			l = append(l, impl.Calendar{Week: week})
		}
		for d := range 3 {
			exceptions := exceptionsFrom(2, 3, 2, 8)
			exceptions[d].Hours = hours
			l = append(l, impl.Calendar{Week: fiveDays(), Exceptions: exceptions})
		}
	}
	return l
}

// endDays returns days at and beyond both ends, and others.
func endDays() []int {
	return []int{
		math.MinInt, math.MinInt + 1, -1 << 32, -1000, -8, -7, -2, -1,
		0, 1, 2, 3, 4, 5, 6, 7, 8, 9, 13, 14, 48, 49, 50, 499, 500, 501, 700, 979, 980, 981, 991, 992, 993, 994, 995, 996, 997, 998, 999,
		1000, 1001, 1006, 1007, 2000, 1 << 32, math.MaxInt - 1, math.MaxInt,
	}
}

// innerDays returns those of endDays that are days.
func innerDays() []int {
	return slices.DeleteFunc(endDays(), func(d int) bool { return d < 0 || d > mostDay })
}

// noDays returns those of endDays that are not days.
func noDays() []int {
	return slices.DeleteFunc(endDays(), func(d int) bool { return d >= 0 && d <= mostDay })
}

// writtenOut returns the hours of all days.
func writtenOut(c impl.Calendar) []int {
	l := slices.Repeat(c.Week, mostDay/7+1)[:mostDay+1]
	for _, e := range c.Exceptions {
		l[e.Day] = e.Hours
	}
	return l
}

// stretch returns the days from a to the one before b of all of them.
func stretch(all []int, a int, b int) []int {
	a, b = min(max(a, 0), len(all)), min(max(b, 0), len(all))
	if a > b {
		return nil
	}
	return all[a:b]
}

func totalOf(l []int) int {
	sum := 0
	for _, n := range l {
		sum += n
	}
	return sum
}

// withWork returns how many of the days have work.
func withWork(l []int) int {
	n := 0
	for _, hours := range l {
		if hours != 0 {
			n++
		}
	}
	return n
}

// signedWork returns the number of days with work from a to b, negative if b is before a.
func signedWork(all []int, a int, b int) int {
	if b < a {
		return -withWork(stretch(all, b, a))
	}
	return withWork(stretch(all, a, b))
}

// dayAfter returns the day nearest to a day, in the direction of n, with n days with work in between.
func dayAfter(all []int, day int, n int) (int, bool) {
	step := 1
	if n < 0 {
		step = -1
	}
	for b := day; b >= 0 && b <= mostDay; b += step {
		if signedWork(all, day, b) == n {
			return b, true
		}
	}
	return 0, false
}

// dayDone returns the first day from a day on at the end of which so many hours are done.
func dayDone(all []int, day int, hours int) (int, bool) {
	for d := day; d <= mostDay; d++ {
		if totalOf(all[day:d+1]) >= hours {
			return d, true
		}
	}
	return 0, false
}

func TestIsCalendar(t *testing.T) {
	for _, c := range someCalendars() {
		if !impl.IsCalendar(c) {
			t.Errorf("%v is no calendar", c)
		}
	}
	for _, c := range noCalendars() {
		if impl.IsCalendar(c) {
			t.Errorf("%v is a calendar", c)
		}
	}
	for hours := -2; hours <= mostHours+2; hours++ {
		want := hours >= 0 && hours <= mostHours
		if impl.IsCalendar(impl.Calendar{Week: equalDays(hours)}) != want {
			t.Errorf("a week with %d hours on each day", hours)
		}
		if impl.IsCalendar(impl.Calendar{Week: fiveDays(), Exceptions: exceptionsFrom(5, 1, 1, hours)}) != want {
			t.Errorf("an exception of %d hours", hours)
		}
	}
	for n := range 3 * mostExceptions {
		if impl.IsCalendar(impl.Calendar{Week: fiveDays(), Exceptions: exceptionsFrom(n, n, 1, 8)}) != (n <= mostExceptions) {
			t.Errorf("%d exceptions", n)
		}
	}
	for n := range 15 {
		if impl.IsCalendar(impl.Calendar{Week: make([]int, n)}) != (n == 7) {
			t.Errorf("a week of %d days", n)
		}
	}
}

func TestEmptyAndNilExceptions(t *testing.T) {
	for _, l := range [][]impl.Exception{nil, {}} {
		c := impl.Calendar{Week: fiveDays(), Exceptions: l}
		if !impl.IsCalendar(c) || impl.HoursOn(c, 0) != 8 || impl.HoursBetween(c, 0, 1000) != 715*8 {
			t.Errorf("a calendar with the exceptions %#v", l)
		}
	}
}

func TestInvalidCalendars(t *testing.T) {
	for _, c := range noCalendars() {
		for _, day := range endDays() {
			if n := impl.HoursOn(c, day); n != 0 {
				t.Errorf("HoursOn(%v, %d) = %d", c, day, n)
			}
			for _, n := range []int{0, 1, 8, 1000, math.MaxInt, -1, math.MinInt} {
				if h := impl.HoursBetween(c, day, n); h != 0 {
					t.Errorf("HoursBetween(%v, %d, %d) = %d", c, day, n, h)
				}
				if w := impl.WorkdaysBetween(c, day, n); w != 0 {
					t.Errorf("WorkdaysBetween(%v, %d, %d) = %d", c, day, n, w)
				}
				checkNoDay(t, c, day, n)
			}
		}
	}
}

// checkNoDay checks that neither so many workdays nor so many hours from a day on lead to a day.
func checkNoDay(t *testing.T, c impl.Calendar, day int, n int) {
	t.Helper()
	if d, ok := impl.AddWorkdays(c, day, n); d != 0 || ok {
		t.Errorf("AddWorkdays(%v, %d, %d) = %d, %v", c, day, n, d, ok)
	}
	if d, ok := impl.FinishDay(c, day, n); d != 0 || ok {
		t.Errorf("FinishDay(%v, %d, %d) = %d, %v", c, day, n, d, ok)
	}
}

func TestHoursOn(t *testing.T) {
	for _, c := range someCalendars() {
		for day, want := range writtenOut(c) {
			if n := impl.HoursOn(c, day); n != want {
				t.Errorf("HoursOn(%v, %d) = %d, not %d", c, day, n, want)
			}
		}
		for _, day := range noDays() {
			if n := impl.HoursOn(c, day); n != 0 {
				t.Errorf("HoursOn(%v, %d) = %d", c, day, n)
			}
		}
	}
}

func TestHoursAndWorkdaysBetween(t *testing.T) {
	for _, c := range someCalendars() {
		all := writtenOut(c)
		for _, a := range endDays() {
			for _, b := range endDays() {
				if n, want := impl.HoursBetween(c, a, b), totalOf(stretch(all, a, b)); n != want {
					t.Errorf("HoursBetween(%v, %d, %d) = %d, not %d", c, a, b, n, want)
				}
				if n, want := impl.WorkdaysBetween(c, a, b), signedWork(all, a, b); n != want {
					t.Errorf("WorkdaysBetween(%v, %d, %d) = %d, not %d", c, a, b, n, want)
				}
			}
		}
	}
}

// pairsOf returns the results of f for all pairs of days.
func pairsOf(days []int, f func(a int, b int) int) [][]int {
	var l [][]int
	for _, a := range days {
		var row []int
		for _, b := range days {
			row = append(row, f(a, b))
		}
		l = append(l, row)
	}
	return l
}

// TestStretchesAddUp goes from one day to another one by way of a third: workdays in any direction, hours forwards only.
func TestStretchesAddUp(t *testing.T) {
	days := []int{math.MinInt, -5, -1, 0, 1, 2, 5, 7, 12, 500, 501, 980, 998, 999, 1000, 1001, math.MaxInt}
	for _, c := range someCalendars() {
		hours := pairsOf(days, func(a int, b int) int { return impl.HoursBetween(c, a, b) })
		work := pairsOf(days, func(a int, b int) int { return impl.WorkdaysBetween(c, a, b) })
		for i, a := range days {
			for k, b := range days {
				if work[i][k] != -work[k][i] {
					t.Errorf("%v: %d workdays from %d to %d, but %d back", c, work[i][k], a, b, work[k][i])
				}
				for m, e := range days {
					if work[i][k]+work[k][m] != work[i][m] {
						t.Errorf("%v: workdays from %d over %d to %d", c, a, b, e)
					}
					if i <= k && k <= m && hours[i][k]+hours[k][m] != hours[i][m] {
						t.Errorf("%v: hours from %d over %d to %d", c, a, b, e)
					}
				}
			}
		}
	}
}

func TestAddWorkdays(t *testing.T) {
	for _, c := range someCalendars() {
		all := writtenOut(c)
		for _, day := range innerDays() {
			behind, before := withWork(all[day:]), withWork(all[:day])
			steps := []int{behind - 2, behind - 1, behind, behind + 1, -before + 1, -before, -before - 1, 999, 1000, -999, -1000}
			for n := -16; n <= 16; n++ {
				steps = append(steps, n)
			}
			for _, n := range steps {
				want, found := dayAfter(all, day, n)
				if d, ok := impl.AddWorkdays(c, day, n); d != want || ok != found {
					t.Errorf("AddWorkdays(%v, %d, %d) = %d, %v, not %d, %v", c, day, n, d, ok, want, found)
				}
			}
		}
	}
}

func TestFinishDay(t *testing.T) {
	for _, c := range someCalendars() {
		all := writtenOut(c)
		for _, day := range innerDays() {
			left := totalOf(all[day:])
			hours := []int{left - 1, left, left + 1, left / 2, 1000, mostHours * 1000, mostHours*1000 + 1}
			for n := 1; n <= 50; n++ {
				hours = append(hours, n)
			}
			for _, n := range hours {
				if n < 1 {
					continue
				}
				want, found := dayDone(all, day, n)
				if d, ok := impl.FinishDay(c, day, n); d != want || ok != found {
					t.Errorf("FinishDay(%v, %d, %d) = %d, %v, not %d, %v", c, day, n, d, ok, want, found)
				}
			}
		}
	}
}

// TestOutOfReach has days that are none, work that no day up to the last one finishes, and no work to finish.
func TestOutOfReach(t *testing.T) {
	for _, c := range someCalendars() {
		for _, day := range noDays() {
			for _, n := range []int{1, 8, -1, 0, -8, math.MaxInt, math.MinInt} {
				checkNoDay(t, c, day, n)
			}
		}
		for _, day := range innerDays() {
			for _, n := range []int{mostHours*1000 + 1, 1 << 32, math.MaxInt, math.MaxInt - 1, math.MinInt, math.MinInt + 1, -1001} {
				checkNoDay(t, c, day, n)
			}
			for _, hours := range []int{0, -1, -8, math.MinInt} {
				if d, ok := impl.FinishDay(c, day, hours); d != 0 || ok {
					t.Errorf("FinishDay(%v, %d, %d) = %d, %v", c, day, hours, d, ok)
				}
			}
			if d, ok := impl.AddWorkdays(c, day, 0); d != day || !ok {
				t.Errorf("AddWorkdays(%v, %d, 0) = %d, %v", c, day, d, ok)
			}
		}
	}
}

// TestThereAndBack goes forwards and back again, to the day itself, or from a free day to the next one with work; and backwards and forth.
func TestThereAndBack(t *testing.T) {
	for _, c := range someCalendars() {
		all := writtenOut(c)
		for _, day := range innerDays() {
			for n := 1; n <= 1000; n += 1 + n/8 {
				if there, ok := impl.AddWorkdays(c, day, n); ok {
					first := day
					for all[first] == 0 {
						first++
					}
					if back, ok := impl.AddWorkdays(c, there, -n); back != first || !ok {
						t.Errorf("%v: %d workdays from %d on lead to %d, but back to %d, %v", c, n, day, there, back, ok)
					}
				}
				if back, ok := impl.AddWorkdays(c, day, -n); ok {
					next, ok := impl.AddWorkdays(c, back, n)
					if !ok || next > day || withWork(all[next:day]) != 0 || all[next-1] == 0 {
						t.Errorf("%v: %d workdays before %d is %d, but then %d, %v", c, n, day, back, next, ok)
					}
				}
			}
		}
	}
}

// TestNoSoonerDay checks that on the day before the one found the work is not finished, and on it it is.
func TestNoSoonerDay(t *testing.T) {
	for _, c := range someCalendars() {
		for _, day := range innerDays() {
			for hours := 1; hours <= mostHours*1000; hours += 1 + hours/4 {
				d, ok := impl.FinishDay(c, day, hours)
				if !ok {
					if impl.HoursBetween(c, day, mostDay+1) >= hours {
						t.Errorf("%v: %d hours from %d on are not finished", c, hours, day)
					}
					continue
				}
				if d < day || impl.HoursBetween(c, day, d+1) < hours || impl.HoursBetween(c, day, d) >= hours {
					t.Errorf("%v: %d hours from %d on are finished on %d", c, hours, day, d)
				}
			}
		}
	}
}

func TestCalendarWithoutWork(t *testing.T) {
	for _, c := range []impl.Calendar{
		{Week: equalDays(0)},
		{Week: equalDays(0), Exceptions: []impl.Exception{}},
		{Week: equalDays(0), Exceptions: []impl.Exception{{Day: 0}, {Day: 500}, {Day: mostDay}}},
	} {
		if !impl.IsCalendar(c) {
			t.Errorf("%v is no calendar", c)
		}
		for _, day := range innerDays() {
			if impl.HoursOn(c, day) != 0 || impl.HoursBetween(c, 0, day) != 0 || impl.WorkdaysBetween(c, 0, day) != 0 || impl.WorkdaysBetween(c, mostDay, day) != 0 {
				t.Errorf("%v: there is work until %d", c, day)
			}
			if d, ok := impl.AddWorkdays(c, day, 0); d != day || !ok {
				t.Errorf("AddWorkdays(%v, %d, 0) = %d, %v", c, day, d, ok)
			}
			for _, n := range []int{1, 2, 7, 1000, -1, -2, -7, -1000} {
				checkNoDay(t, c, day, n)
			}
		}
	}
}

func TestCalendarCases(t *testing.T) {
	c := impl.Calendar{Week: fiveDays(), Exceptions: []impl.Exception{{Day: 2, Hours: 0}, {Day: 5, Hours: 4}, {Day: mostDay, Hours: 10}}}
	for _, k := range []struct{ day, hours int }{{-1, 0}, {0, 8}, {2, 0}, {3, 8}, {5, 4}, {6, 0}, {7, 8}, {9, 8}, {12, 0}, {998, 8}, {mostDay, 10}, {mostDay + 1, 0}} {
		if n := impl.HoursOn(c, k.day); n != k.hours {
			t.Errorf("HoursOn(%d) = %d, not %d", k.day, n, k.hours)
		}
	}
	for _, k := range []struct{ a, b, hours, days int }{
		{0, 0, 0, 0}, {0, 1, 8, 1}, {0, 7, 36, 5}, {7, 0, 0, -5}, {2, 3, 0, 0}, {3, 2, 0, 0}, {5, 6, 4, 1}, {6, 5, 0, -1},
		{0, 14, 76, 10}, {-7, 7, 36, 5}, {7, -7, 0, -5}, {998, 1000, 18, 2}, {998, mostDay, 8, 1}, {mostDay, 2000, 10, 1}, {2000, mostDay, 0, -1},
		{-5, 0, 0, 0}, {1000, 1005, 0, 0}, {math.MinInt, 1, 8, 1}, {math.MaxInt, math.MinInt, 0, -716},
		{math.MinInt, math.MaxInt, 715*8 - 8 + 4 + 10, 716},
	} {
		if h, d := impl.HoursBetween(c, k.a, k.b), impl.WorkdaysBetween(c, k.a, k.b); h != k.hours || d != k.days {
			t.Errorf("from %d to %d are %d hours on %d days, not %d on %d", k.a, k.b, h, d, k.hours, k.days)
		}
	}
	for _, k := range []struct {
		day, n, want int
		ok           bool
	}{
		{0, 1, 1, true}, {0, 2, 2, true}, {0, 3, 4, true}, {2, 1, 4, true}, {4, 1, 5, true}, {4, 2, 6, true}, {4, 3, 8, true}, {6, 1, 8, true},
		{7, -1, 5, true}, {7, -2, 4, true}, {7, -4, 1, true}, {7, -5, 0, true}, {7, -6, 0, false}, {3, -1, 1, true}, {0, -1, 0, false}, {1, -1, 0, true},
		// The last day can be reached, but not left.
		{998, 1, mostDay, true}, {998, 2, 0, false}, {mostDay, 0, mostDay, true}, {mostDay, 1, 0, false}, {0, 714, 998, true}, {0, 715, mostDay, true}, {0, 716, 0, false},
		{mostDay, -1, 998, true}, {mostDay, -714, 1, true}, {mostDay, -715, 0, true}, {mostDay, -716, 0, false},
	} {
		if d, ok := impl.AddWorkdays(c, k.day, k.n); d != k.want || ok != k.ok {
			t.Errorf("AddWorkdays(%d, %d) = %d, %v, not %d, %v", k.day, k.n, d, ok, k.want, k.ok)
		}
	}
	for _, k := range []struct {
		day, hours, want int
		ok               bool
	}{
		{0, 1, 0, true}, {0, 8, 0, true}, {0, 9, 1, true}, {0, 16, 1, true}, {0, 17, 3, true}, {2, 1, 3, true}, {0, 36, 5, true}, {0, 37, 7, true}, {6, 1, 7, true},
		{mostDay, 10, mostDay, true}, {mostDay, 11, 0, false}, {998, 18, mostDay, true}, {998, 19, 0, false}, {0, 5716, 998, true}, {0, 5717, mostDay, true}, {0, 5726, mostDay, true}, {0, 5727, 0, false}, {0, 0, 0, false},
	} {
		if d, ok := impl.FinishDay(c, k.day, k.hours); d != k.want || ok != k.ok {
			t.Errorf("FinishDay(%d, %d) = %d, %v, not %d, %v", k.day, k.hours, d, ok, k.want, k.ok)
		}
	}
}

// TestCalendarsStayAsTheyAre checks that arguments are not modified, nor is their unused capacity.
func TestCalendarsStayAsTheyAre(t *testing.T) {
	week := append(fiveDays(), 77, 78)
	exceptions := append(exceptionsFrom(3, 4, 2, 5), impl.Exception{Day: 77, Hours: 78})
	keptWeek, keptExceptions := slices.Clone(week), slices.Clone(exceptions)
	c := impl.Calendar{Week: week[:7], Exceptions: exceptions[:4]}
	impl.IsCalendar(c)
	impl.HoursOn(c, 5)
	impl.HoursBetween(c, 0, 50)
	impl.WorkdaysBetween(c, 50, 0)
	impl.AddWorkdays(c, 3, 20)
	impl.AddWorkdays(c, 30, -10)
	impl.FinishDay(c, 3, 20)
	if !slices.Equal(week, keptWeek) || !slices.Equal(exceptions, keptExceptions) {
		t.Errorf("the calendar is now %v, %v", week, exceptions)
	}
}
