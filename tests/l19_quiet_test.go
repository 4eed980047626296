package tests

import (
	"math"
	"slices"
	"strconv"
	"strings"
	"testing"
	"time"

	"loop.example/g00039/impl"
)

const daySecs = 24 * 60 * 60

func clockModel(at int, zone int) (time.Time, bool) {
	if !isWithin(at, 0, maxTime) || !isWithin(zone, -1440, 1440) || at+60*zone < 0 {
		return time.Time{}, false
	}
	return time.Unix(int64(at+60*zone), 0).UTC(), true
}

func lastDayModel(year int, month int) int {
	return time.Date(year, time.Month(month)+1, 0, 0, 0, 0, 0, time.UTC).Day()
}

func dateModel(at int, zone int) impl.Date {
	c, ok := clockModel(at, zone)
	if !ok {
		return impl.Date{}
	}
	month := int(c.Month())
	return impl.Date{Year: c.Year(), Month: month, Day: c.Day(), Last: lastDayModel(c.Year(), month), Weekday: int(c.Weekday()), Minute: c.Hour()*60 + c.Minute()}
}

func dayNumberModel(year int, month int, day int) int {
	if !isWithin(year, 1970, 40000) || !isWithin(month, 1, 12) || !isWithin(day, 1, 31) {
		return -1
	}
	c := time.Date(year, time.Month(month), day, 0, 0, 0, 0, time.UTC)
	if c.Day() != day {
		return -1
	}
	return int(c.Unix() / daySecs)
}

// checkDate holds DateOf against the model, and what promise 19 says of it against DayNumber.
func checkDate(t *testing.T, at int, zone int) impl.Date {
	t.Helper()
	got := impl.DateOf(at, zone)
	if want := dateModel(at, zone); got != want {
		t.Fatalf("DateOf %d, %d: %+v, not %+v", at, zone, got, want)
	}
	if got == (impl.Date{}) {
		return got
	}
	if n := impl.DayNumber(got.Year, got.Month, got.Day); n != (at+60*zone)/daySecs {
		t.Fatalf("DateOf %d, %d: the day %d", at, zone, n)
	}
	if next := impl.DateOf(at+daySecs, zone); at <= maxTime-daySecs && next.Weekday != (got.Weekday+1)%7 {
		t.Fatalf("the day behind %d, %d: %+v", at, zone, next)
	}
	return got
}

func checkDayNumber(t *testing.T, year int, month int, day int) int {
	t.Helper()
	got := impl.DayNumber(year, month, day)
	if want := dayNumberModel(year, month, day); got != want {
		t.Fatalf("DayNumber %d, %d, %d: %d, not %d", year, month, day, got, want)
	}
	return got
}

// monthLengths is the document's row of months, so that the model itself is held against it.
func monthLengths(year int) []int {
	l := []int{31, 28, 31, 30, 31, 30, 31, 31, 30, 31, 30, 31}
	if year%400 == 0 || year%4 == 0 && year%100 != 0 {
		l[1]++
	}
	return l
}

func TestDatesCountDays(t *testing.T) {
	for _, c := range []struct {
		at, zone int
		want     impl.Date
	}{
		{0, 0, impl.Date{Year: 1970, Month: 1, Day: 1, Last: 31, Weekday: 4}},
		{59, 0, impl.Date{Year: 1970, Month: 1, Day: 1, Last: 31, Weekday: 4}},
		{60, 0, impl.Date{Year: 1970, Month: 1, Day: 1, Last: 31, Weekday: 4, Minute: 1}},
		{daySecs - 1, 0, impl.Date{Year: 1970, Month: 1, Day: 1, Last: 31, Weekday: 4, Minute: 1439}},
		{daySecs, 0, impl.Date{Year: 1970, Month: 1, Day: 2, Last: 31, Weekday: 5}},
		{3 * daySecs, 0, impl.Date{Year: 1970, Month: 1, Day: 4, Last: 31, Weekday: 0}},
		{1700000000, 0, impl.Date{Year: 2023, Month: 11, Day: 14, Last: 30, Weekday: 2, Minute: 22*60 + 13}},
		{1700000000, 107, impl.Date{Year: 2023, Month: 11, Day: 15, Last: 30, Weekday: 3}},
		{0, 1440, impl.Date{Year: 1970, Month: 1, Day: 2, Last: 31, Weekday: 5}},
		{0, 1439, impl.Date{Year: 1970, Month: 1, Day: 1, Last: 31, Weekday: 4, Minute: 1439}},
		{daySecs, -1440, impl.Date{Year: 1970, Month: 1, Day: 1, Last: 31, Weekday: 4}},
		{59 * daySecs, -1, impl.Date{Year: 1970, Month: 2, Day: 28, Last: 28, Weekday: 6, Minute: 1439}},
		{365*daySecs - 1, 1, impl.Date{Year: 1971, Month: 1, Day: 1, Last: 31, Weekday: 5}},
		{365 * daySecs, -1, impl.Date{Year: 1970, Month: 12, Day: 31, Last: 31, Weekday: 4, Minute: 1439}},
		{31*daySecs - 60, 1, impl.Date{Year: 1970, Month: 2, Day: 1, Last: 28}},
	} {
		if got := checkDate(t, c.at, c.zone); got != c.want {
			t.Errorf("%d, %d: %+v", c.at, c.zone, got)
		}
	}
	for _, c := range [][2]int{
		{-1, 0}, {-1, 1440}, {math.MinInt, 0}, {math.MinInt, -1440}, {maxTime + 1, 0}, {maxTime + 1, -1440}, {math.MaxInt, 0}, {math.MaxInt, 1440},
		{5 * daySecs, 1441}, {5 * daySecs, -1441}, {5 * daySecs, math.MinInt}, {5 * daySecs, math.MaxInt}, {math.MaxInt, math.MaxInt},
		{0, -1}, {59, -1}, {0, -1440}, {daySecs - 1, -1440}, {0, math.MinInt},
	} {
		if got := checkDate(t, c[0], c[1]); got != (impl.Date{}) {
			t.Errorf("%v: %+v", c, got)
		}
	}
	for _, at := range []int{60, 61, daySecs, maxTime, maxTime - 1} {
		for _, zone := range []int{-1440, -1439, -1, 0, 1, 1439, 1440} {
			checkDate(t, at, zone)
		}
	}
	for zone := -1441; zone <= 1441; zone++ {
		checkDate(t, 59*daySecs+12345, zone)
		checkDate(t, 365*daySecs-54321, zone)
		checkDate(t, -60*zone, zone)
		checkDate(t, -60*zone-1, zone)
	}
}

func TestMonthsEnd(t *testing.T) {
	day := 0
	for year := 1970; year <= 2410; year++ {
		for i, last := range monthLengths(year) {
			month := i + 1
			if n := checkDayNumber(t, year, month, 1); n != day {
				t.Fatalf("%d-%d begins at the day %d, not %d", year, month, n, day)
			}
			first := checkDate(t, day*daySecs, 0)
			if want := (impl.Date{Year: year, Month: month, Day: 1, Last: last, Weekday: (4 + day) % 7}); first != want {
				t.Fatalf("%d-%d begins: %+v", year, month, first)
			}
			day += last
			end := checkDate(t, day*daySecs-1, 0)
			if want := (impl.Date{Year: year, Month: month, Day: last, Last: last, Weekday: (3 + day) % 7, Minute: 1439}); end != want {
				t.Fatalf("%d-%d ends: %+v", year, month, end)
			}
			if n := checkDayNumber(t, year, month, last); n != day-1 {
				t.Fatalf("%d-%d ends at the day %d", year, month, n)
			}
			if n := checkDayNumber(t, year, month, last+1); n != -1 {
				t.Fatalf("behind the end of %d-%d: %d", year, month, n)
			}
		}
	}
	for year, last := range map[int]int{1972: 29, 2000: 29, 2023: 28, 2024: 29, 2100: 28, 2200: 28, 2300: 28, 2400: 29, 2500: 28, 33600: 29, 33500: 28} {
		n := checkDayNumber(t, year, 2, 28)
		if d := checkDate(t, n*daySecs, 0); d.Last != last {
			t.Errorf("February of %d: %+v", year, d)
		}
		if checkDayNumber(t, year, 2, 29) >= 0 != (last == 29) || checkDayNumber(t, year, 2, 30) != -1 {
			t.Errorf("February of %d", year)
		}
		if d := checkDate(t, (n+1)*daySecs, 0); d.Day == 29 != (last == 29) {
			t.Errorf("behind the 28th of February of %d: %+v", year, d)
		}
	}
}

func TestDayNumbers(t *testing.T) {
	for _, c := range [][4]int{
		{1970, 1, 1, 0}, {1970, 12, 31, 364}, {1971, 1, 1, 365}, {2000, 2, 29, 11016}, {2000, 3, 1, 11017}, {2023, 11, 28, 19689}, {40000, 1, 1, 13890172}, {40000, 12, 31, 13890537},
		{1969, 12, 31, -1}, {1969, 1, 1, -1}, {40001, 1, 1, -1}, {0, 1, 1, -1}, {-1970, 1, 1, -1}, {2000, 0, 1, -1}, {2000, 13, 1, -1}, {2000, -1, 1, -1}, {2000, 1, 0, -1}, {2000, 1, 32, -1}, {2000, 1, -1, -1}, {0, 0, 0, -1},
	} {
		if got := checkDayNumber(t, c[0], c[1], c[2]); got != c[3] {
			t.Errorf("%v: %d", c, got)
		}
	}
	for _, wild := range []int{math.MinInt, math.MinInt + 1, -1, 0, 32, math.MaxInt - 1, math.MaxInt} {
		for _, c := range [][3]int{{wild, 1, 1}, {2000, wild, 1}, {2000, 2, wild}, {wild, wild, wild}} {
			if got := checkDayNumber(t, c[0], c[1], c[2]); got != -1 {
				t.Errorf("%v: %d", c, got)
			}
		}
	}
	for _, year := range []int{1969, 1970, 1971, 2023, 2024, 2100, 2400, 9999, 10000, 33658, 39999, 40000, 40001} {
		for month := -1; month <= 14; month++ {
			for day := -1; day <= 33; day++ {
				checkDayNumber(t, year, month, day)
			}
		}
	}
	for year := 1970; year < 40000; year++ {
		if checkDayNumber(t, year, 12, 31)+1 != checkDayNumber(t, year+1, 1, 1) {
			t.Fatalf("%d ends", year)
		}
		// The greatest time is far ahead of the last year that DayNumber knows.
		if at := checkDayNumber(t, year, 12, 31)*daySecs + daySecs - 1; at <= maxTime {
			checkDate(t, at, 0)
			checkDate(t, at, 1)
		}
	}
}

func TestDatesOfRandomTimes(t *testing.T) {
	a := newEvalAsker(190)
	for range 200000 {
		checkDate(t, a.Intn(maxTime+1), a.Intn(2885)-1442)
		checkDate(t, a.Intn(3000*daySecs), a.Intn(2881)-1440)
	}
}

// intervalParts are the Ranges of an interval with what each kind may span.
func intervalParts(i *impl.Interval) []struct {
	list     *[]impl.Range
	from, to int
} {
	return []struct {
		list     *[]impl.Range
		from, to int
	}{{&i.Minutes, 0, 1439}, {&i.Weekdays, 0, 6}, {&i.Days, -31, 31}, {&i.Months, 1, 12}, {&i.Years, 1970, 40000}}
}

func goodIntervalModel(i impl.Interval) bool {
	good := isWithin(i.Zone, -1440, 1440) && len(i.Free) <= 10
	for n, day := range i.Free {
		good = good && isWithin(day, 0, 20000000) && (n == 0 || i.Free[n-1] < day)
	}
	for _, p := range intervalParts(&i) {
		good = good && len(*p.list) <= 10
		for _, r := range *p.list {
			good = good && r.From <= r.To && isWithin(r.From, p.from, p.to) && isWithin(r.To, p.from, p.to)
			if p.from < 0 {
				good = good && r.From != 0 && r.To != 0 && r.From > 0 == (r.To > 0)
			}
		}
	}
	return good
}

// anyRange looks through all numbers that a Range has, so that its ends count.
func anyRange(list []impl.Range, n int) bool {
	return len(list) == 0 || slices.ContainsFunc(list, func(r impl.Range) bool { return isWithin(n, r.From, r.To) })
}

func inIntervalModel(i impl.Interval, at int) bool {
	c, ok := clockModel(at, i.Zone)
	if !ok || !goodIntervalModel(i) || slices.Contains(i.Free, int(c.Unix()/daySecs)) {
		return false
	}
	// A day counted from the month's end is so many days ahead of the next month's first one.
	day, last := c.Day(), lastDayModel(c.Year(), int(c.Month()))
	days := anyRange(i.Days, day)
	for _, r := range i.Days {
		for n := r.From; n <= r.To && n < 0; n++ {
			days = days || last+1+n == day
		}
	}
	return days && anyRange(i.Minutes, c.Hour()*60+c.Minute()) && anyRange(i.Weekdays, int(c.Weekday())) && anyRange(i.Months, int(c.Month())) && anyRange(i.Years, c.Year())
}

func checkInterval(t *testing.T, i impl.Interval) bool {
	t.Helper()
	arg, kept := guarded(i)
	got := impl.GoodInterval(arg)
	if got != goodIntervalModel(i) || !kept() {
		t.Fatalf("GoodInterval of %s: %v", shortly(i), got)
	}
	return got
}

func checkIn(t *testing.T, i impl.Interval, at int) bool {
	t.Helper()
	arg, kept := guarded(i)
	got := impl.InInterval(arg, at)
	if want := inIntervalModel(i, at); got != want || !kept() {
		t.Fatalf("InInterval %s, %d: %v", shortly(i), at, got)
	}
	return got
}

func TestIntervalsThatAreGood(t *testing.T) {
	for zone, want := range map[int]bool{-1441: false, -1440: true, 0: true, 1440: true, 1441: false, math.MinInt: false, math.MaxInt: false} {
		if checkInterval(t, impl.Interval{Zone: zone}) != want || checkIn(t, impl.Interval{Zone: zone}, 5*daySecs) != want {
			t.Errorf("the zone %d", zone)
		}
	}
	for kind := range 5 {
		var i impl.Interval
		p := intervalParts(&i)[kind]
		try := func(want bool, list ...impl.Range) {
			t.Helper()
			*p.list = list
			if checkInterval(t, i) != want || checkIn(t, i, 5*daySecs) && !want {
				t.Errorf("kind %d: %v is not %v", kind, list, want)
			}
		}
		try(true)
		for _, n := range []int{p.from, p.to} {
			one := impl.Range{From: n, To: n}
			try(true, one)
			try(true, one, one)
			try(true, slices.Repeat([]impl.Range{one}, 10)...)
			try(false, slices.Repeat([]impl.Range{one}, 11)...)
			for at := range 10 {
				list := slices.Repeat([]impl.Range{one}, 10)
				list[at].From++
				list[at].To--
				try(false, list...)
			}
		}
		whole := impl.Range{From: p.from, To: p.to}
		try(p.from >= 0, whole)
		try(false, impl.Range{From: p.from - 1, To: p.from})
		try(false, impl.Range{From: p.from - 1, To: p.from - 1})
		try(false, impl.Range{From: p.to, To: p.to + 1})
		try(false, impl.Range{From: p.to + 1, To: p.to + 1})
		try(true, impl.Range{From: p.to - 1, To: p.to})
		try(true, impl.Range{From: p.from, To: p.from + 1})
		try(false, impl.Range{From: p.to, To: p.to - 1})
		try(false, impl.Range{From: p.from + 1, To: p.from})
		try(false, impl.Range{From: math.MinInt, To: math.MaxInt})
		try(false, impl.Range{From: p.to, To: math.MaxInt})
		try(false, impl.Range{From: math.MinInt, To: p.from})
		try(false, impl.Range{From: math.MaxInt, To: math.MinInt})
		try(p.from == 0, impl.Range{})
	}
	for r, want := range map[impl.Range]bool{
		{From: 0, To: 0}: false, {From: 0, To: 1}: false, {From: -1, To: 0}: false, {From: -1, To: 1}: false, {From: -31, To: 31}: false, {From: 1, To: -1}: false,
		{From: 1, To: 1}: true, {From: 1, To: 31}: true, {From: -31, To: -1}: true, {From: -1, To: -1}: true, {From: -1, To: -2}: false, {From: -32, To: -1}: false, {From: 1, To: 32}: false,
	} {
		if checkInterval(t, impl.Interval{Days: []impl.Range{r}}) != want {
			t.Errorf("the days %v", r)
		}
	}
	for _, c := range []struct {
		free []int
		want bool
	}{
		{[]int{0}, true}, {[]int{-1}, false}, {[]int{20000000}, true}, {[]int{20000001}, false}, {[]int{0, 20000000}, true}, {[]int{-1, 5}, false}, {[]int{5, 20000001}, false}, {[]int{5, 5}, false}, {[]int{6, 5}, false}, {[]int{1, 2, 2}, false}, {[]int{1, 3, 2}, false},
		{[]int{math.MinInt}, false}, {[]int{math.MaxInt}, false}, {[]int{1, 2, 3, 4, 5, 6, 7, 8, 9, 10}, true}, {[]int{1, 2, 3, 4, 5, 6, 7, 8, 9, 10, 11}, false},
	} {
		i := impl.Interval{Free: c.free}
		if checkInterval(t, i) != c.want || checkIn(t, i, 50*daySecs) != c.want {
			t.Errorf("free %v", c.free)
		}
	}
}

func TestIntervalsWithoutRanges(t *testing.T) {
	for _, at := range []int{math.MinInt, -1, 0, 59, 60, 3599, 3600, 86399, 86400, 1700000000, maxTime, maxTime + 1, math.MaxInt} {
		for _, zone := range []int{-1441, -1440, -60, -1, 0, 1, 60, 1440, 1441} {
			i := impl.Interval{Zone: zone}
			if checkIn(t, i, at) != (impl.DateOf(at, zone) != impl.Date{}) {
				t.Errorf("%d in the zone %d", at, zone)
			}
		}
	}
}

// moment is the time of a date and a minute.
func moment(year int, month int, day int, minute int) int {
	return impl.DayNumber(year, month, day)*daySecs + minute*60
}

func TestIntervalsWithRangesOfOneKind(t *testing.T) {
	ranges := func(pairs ...int) []impl.Range {
		var out []impl.Range
		for i := 0; i < len(pairs); i += 2 {
			out = append(out, impl.Range{From: pairs[i], To: pairs[i+1]})
		}
		return out
	}
	for _, c := range []struct {
		interval impl.Interval
		in, out  []int
	}{
		{impl.Interval{Minutes: ranges(540, 1019)}, []int{moment(2023, 11, 28, 540), moment(2023, 11, 28, 1019), moment(2023, 11, 28, 1019) + 59}, []int{moment(2023, 11, 28, 540) - 1, moment(2023, 11, 28, 1020)}},
		{impl.Interval{Minutes: ranges(1439, 1439, 0, 0)}, []int{0, 59, daySecs - 1, daySecs - 60, daySecs}, []int{60, daySecs - 61}},
		{impl.Interval{Weekdays: ranges(1, 5)}, []int{moment(2023, 11, 27, 0), moment(2023, 12, 1, 1439)}, []int{moment(2023, 11, 26, 1439), moment(2023, 12, 2, 0)}},
		{impl.Interval{Weekdays: ranges(6, 6, 0, 0)}, []int{moment(2023, 12, 2, 0), moment(2023, 12, 3, 1439)}, []int{moment(2023, 12, 1, 1439), moment(2023, 12, 4, 0)}},
		{impl.Interval{Days: ranges(10, 12)}, []int{moment(2023, 2, 10, 0), moment(2023, 2, 12, 1439)}, []int{moment(2023, 2, 9, 1439), moment(2023, 2, 13, 0)}},
		{impl.Interval{Days: ranges(31, 31)}, []int{moment(2023, 1, 31, 0)}, []int{moment(2023, 2, 28, 0), moment(2023, 4, 30, 0), moment(2023, 2, 1, 0)}},
		{impl.Interval{Days: ranges(-1, -1)}, []int{moment(2023, 2, 28, 0), moment(2024, 2, 29, 0), moment(2023, 4, 30, 0), moment(2023, 1, 31, 1439)}, []int{moment(2024, 2, 28, 0), moment(2023, 2, 27, 0), moment(2023, 3, 1, 0), moment(2023, 1, 30, 1439)}},
		{impl.Interval{Days: ranges(-3, -2)}, []int{moment(2023, 2, 26, 0), moment(2023, 2, 27, 0), moment(2024, 2, 27, 0), moment(2024, 2, 28, 0), moment(2023, 4, 28, 0), moment(2023, 1, 29, 0)}, []int{moment(2023, 2, 25, 0), moment(2023, 2, 28, 0), moment(2024, 2, 26, 0), moment(2024, 2, 29, 0), moment(2023, 4, 30, 0), moment(2023, 1, 31, 0)}},
		{impl.Interval{Days: ranges(-31, -31)}, []int{moment(2023, 1, 1, 0), moment(2023, 12, 1, 0)}, []int{moment(2023, 2, 1, 0), moment(2024, 2, 1, 0), moment(2023, 4, 1, 0), moment(2023, 1, 2, 0), moment(2023, 1, 31, 0)}},
		{impl.Interval{Days: ranges(-31, -29)}, []int{moment(2023, 1, 3, 0), moment(2024, 2, 1, 0), moment(2023, 4, 2, 0)}, []int{moment(2023, 2, 1, 0), moment(2024, 2, 2, 0), moment(2023, 4, 3, 0)}},
		{impl.Interval{Days: ranges(1, 1, -1, -1)}, []int{moment(2023, 2, 28, 0), moment(2023, 2, 1, 0)}, []int{moment(2023, 2, 2, 0), moment(2023, 2, 27, 0)}},
		{impl.Interval{Days: ranges(-1, -1, 1, 1)}, []int{moment(2023, 2, 28, 0), moment(2023, 2, 1, 0)}, []int{moment(2023, 2, 2, 0), moment(2023, 2, 27, 0)}},
		{impl.Interval{Months: ranges(2, 3)}, []int{moment(2024, 2, 1, 0), moment(2024, 3, 31, 1439)}, []int{moment(2024, 1, 31, 1439), moment(2024, 4, 1, 0)}},
		{impl.Interval{Months: ranges(12, 12, 1, 1)}, []int{moment(2024, 12, 1, 0), moment(2025, 1, 31, 1439)}, []int{moment(2024, 11, 30, 1439), moment(2025, 2, 1, 0)}},
		{impl.Interval{Years: ranges(2023, 2024)}, []int{moment(2023, 1, 1, 0), moment(2024, 12, 31, 1439)}, []int{moment(2022, 12, 31, 1439), moment(2025, 1, 1, 0)}},
		{impl.Interval{Years: ranges(1970, 1970, 2000, 2001)}, []int{0, moment(1970, 12, 31, 1439), moment(2001, 12, 31, 0)}, []int{moment(1971, 1, 1, 0), moment(1999, 12, 31, 0), maxTime}},
		{impl.Interval{Years: ranges(1970, 40000)}, []int{0, maxTime}, []int{-1, maxTime + 1}},
		{impl.Interval{Zone: 1, Minutes: ranges(0, 0)}, []int{moment(2023, 11, 28, 1439)}, []int{moment(2023, 11, 28, 0)}},
		{impl.Interval{Zone: -1, Weekdays: ranges(0, 0)}, []int{moment(2023, 11, 27, 0), moment(2023, 11, 26, 1)}, []int{moment(2023, 11, 26, 0), moment(2023, 11, 27, 1)}},
		{impl.Interval{Zone: 60, Days: ranges(-1, -1)}, []int{moment(2024, 2, 28, 1380), moment(2024, 2, 29, 1379)}, []int{moment(2024, 2, 28, 1379), moment(2024, 2, 29, 1380)}},
		{impl.Interval{Zone: -60, Months: ranges(12, 12)}, []int{moment(2024, 12, 1, 60), moment(2025, 1, 1, 59)}, []int{moment(2024, 12, 1, 59), moment(2025, 1, 1, 60)}},
		{impl.Interval{Zone: 1440, Years: ranges(2024, 2024)}, []int{moment(2023, 12, 31, 0), moment(2024, 12, 30, 1439)}, []int{moment(2023, 12, 30, 1439), moment(2024, 12, 31, 0)}},
		{impl.Interval{Zone: -1, Years: ranges(1970, 1970)}, []int{60, 365 * daySecs}, []int{59, 0, 365*daySecs + 60}},
		{impl.Interval{Free: []int{0, 3}}, []int{daySecs, 4 * daySecs, 3*daySecs - 1}, []int{0, daySecs - 1, 3 * daySecs, 4*daySecs - 1}},
		{impl.Interval{Zone: 60, Free: []int{3}}, []int{3*daySecs - 3601, 4*daySecs - 3600}, []int{3*daySecs - 3600, 4*daySecs - 3601}},
		{impl.Interval{Zone: -1440, Free: []int{0}}, []int{2 * daySecs}, []int{daySecs, 2*daySecs - 1, 0}},
	} {
		for _, x := range c.in {
			if !checkIn(t, c.interval, x) {
				t.Errorf("%s has not %d", shortly(c.interval), x)
			}
			// Promise 19: what is in is in no more when its day is free.
			free := c.interval
			free.Free = []int{(x + 60*free.Zone) / daySecs}
			if checkIn(t, free, x) {
				t.Errorf("%s has %d", shortly(free), x)
			}
			free.Free[0]++
			if !checkIn(t, free, x) {
				t.Errorf("%s has not %d", shortly(free), x)
			}
		}
		for _, x := range c.out {
			if checkIn(t, c.interval, x) {
				t.Errorf("%s has %d", shortly(c.interval), x)
			}
		}
	}
}

func (a *evalAsker) ranges(from int, to int) []impl.Range {
	var out []impl.Range
	if likely(a.Rand, 2) {
		return nil
	}
	for range a.Intn(3) + 1 {
		x, y := from+a.Intn(to-from+1), from+a.Intn(to-from+1)
		out = append(out, impl.Range{From: min(x, y), To: max(x, y)})
	}
	return out
}

func (a *evalAsker) interval() impl.Interval {
	i := impl.Interval{Zone: a.Intn(2881) - 1440, Minutes: a.ranges(0, 1439), Weekdays: a.ranges(0, 6), Months: a.ranges(1, 12), Years: a.ranges(1970, 1976)}
	i.Days = append(a.ranges(1, 31), a.ranges(-31, -1)...)
	for day := a.Intn(400); likely(a.Rand, 2); day += a.Intn(300) + 1 {
		i.Free = append(i.Free, day)
	}
	return i
}

// damaged is an interval of which one thing is changed at random, mostly so that it is not good any more.
func (a *evalAsker) damaged(i impl.Interval) impl.Interval {
	i = laid(i, 0)
	wild := oneOf(a.Rand, -1, 0, 1, 7, 13, 32, -32, 1440, 1441, -1441, 40001, math.MaxInt, math.MinInt)
	parts := intervalParts(&i)
	p := parts[a.Intn(len(parts))]
	switch a.Intn(5) {
	case 0:
		i.Zone = wild
	case 1:
		i.Free = append(i.Free, wild)
	case 2:
		*p.list = append(*p.list, impl.Range{From: wild, To: wild})
	case 3:
		*p.list = append(*p.list, impl.Range{From: p.from, To: wild})
	default:
		*p.list = append(*p.list, impl.Range{From: wild, To: p.to})
	}
	return i
}

func TestIntervalsAtRandom(t *testing.T) {
	a := newEvalAsker(191)
	in, good, tries := 0, 0, 40000
	for range tries {
		i := a.interval()
		for range 2 {
			x := a.Intn(2500 * daySecs)
			if checkIn(t, i, x) {
				in++
				i.Free = []int{(x + 60*i.Zone) / daySecs}
				if checkIn(t, i, x) {
					t.Fatalf("%s has %d, a free day", shortly(i), x)
				}
			}
		}
		i = a.damaged(i)
		checkIn(t, i, a.Intn(2500*daySecs))
		if checkInterval(t, i) {
			good++
		}
	}
	if in < tries/20 || in > tries*19/20 || good < tries/20 || good > tries*19/20 {
		t.Errorf("%d were in, %d good", in, good)
	}
}

func silence(id string, match string, from int, to int) impl.Silence {
	return impl.Silence{Id: id, Match: matchersOf(match), From: from, To: to}
}

// matchersOf reads matchers without their braces.
func matchersOf(text string) []impl.Matcher {
	m, ok := impl.ReadMatchers("{" + text + "}")
	if !ok {
		panic(text)
	}
	return m
}

func goodSilencesModel(l []impl.Silence) bool {
	good := len(l) <= 50
	for i, s := range l {
		good = good && isNameModel(s.Id) && len(s.Match) > 0 && goodMatchersModel(s.Match) && isWithin(s.From, 0, s.To) && isWithin(s.To, 0, maxTime)
		good = good && (i == 0 || l[i-1].Id < s.Id)
	}
	return good
}

func checkSilences(t *testing.T, l []impl.Silence, labels []impl.Label, at int) []string {
	t.Helper()
	arg, kept := guarded(l)
	if got := impl.GoodSilences(arg); got != goodSilencesModel(l) || !kept() {
		t.Fatalf("GoodSilences of %s: %v", shortly(l), got)
	}
	var want []string
	if goodSilencesModel(l) && goodLabelsModel(labels) && isWithin(at, 0, maxTime) {
		for _, s := range l {
			if isWithin(at, s.From, s.To) && !slices.ContainsFunc(s.Match, func(m impl.Matcher) bool { return !fitsModel(m, labels) }) {
				want = append(want, s.Id)
			}
		}
	}
	on, keptLabels := guarded(labels)
	got := impl.Silenced(arg, on, at)
	if !slices.Equal(got, want) || !kept() || !keptLabels() {
		t.Fatalf("Silenced %s, %v, %d: %v, not %v", shortly(l), labels, at, got, want)
	}
	checkOwn(t, got, arg, on)
	return got
}

func manySilences(n int) []impl.Silence {
	var l []impl.Silence
	for i := range n {
		l = append(l, silence("s"+strconv.Itoa(100+i), `a="1"`, i, 100))
	}
	return l
}

func TestSilencesThatAreGood(t *testing.T) {
	on := labelsOf("a", "1")
	for n, want := range map[int]int{0: 0, 1: 1, 49: 49, 50: 50, 51: 0, 60: 0} {
		l := manySilences(n)
		if got := checkSilences(t, l, on, 100); len(got) != want || impl.GoodSilences(l) != (n <= 50) {
			t.Errorf("%d silences: %v", n, got)
		}
	}
	try := func(want bool, l ...impl.Silence) {
		t.Helper()
		if checkSilences(t, l, on, 7); impl.GoodSilences(l) != want {
			t.Errorf("%s is not %v", shortly(l), want)
		}
	}
	for _, id := range []string{"", "1", "a b", "a-b", "é", "a\n", "a=", strings.Repeat("a", 41)} {
		try(false, silence(id, `a="1"`, 0, 9))
		try(false, silence("A", `a="1"`, 0, 9), silence("a"+id+"!", `a="1"`, 0, 9))
	}
	for _, id := range []string{"_", "A9", "_name", strings.Repeat("a", 40)} {
		try(true, silence(id, `a="1"`, 0, 9))
	}
	one := func(id string) impl.Silence { return silence(id, `a="1"`, 0, 9) }
	try(true, one("A"), one("_"), one("a"), one("aa"), one("b"))
	try(false, one("a"), one("a"))
	try(false, one("b"), one("a"))
	try(false, one("a"), one("A"))
	try(false, one("a"), one("b"), one("b"))
	try(false, one("a"), one("c"), one("b"))
	try(false, impl.Silence{})
	try(false, impl.Silence{Id: "s", To: 9})
	try(false, one("a"), impl.Silence{Id: "s", To: 9})
	for _, m := range badMatchers() {
		try(false, impl.Silence{Id: "s", Match: m, To: 9})
		try(false, one("a"), impl.Silence{Id: "s", Match: append(matchersOf(`a="1"`), m...), To: 9})
	}
	try(true, impl.Silence{Id: "s", Match: manyMatchers(10), To: 9})
	for _, c := range []struct {
		from, to int
		want     bool
	}{
		{0, 0, true}, {0, maxTime, true}, {maxTime, maxTime, true}, {5, 5, true}, {6, 5, false}, {-1, 5, false}, {-1, -1, false}, {0, maxTime + 1, false}, {maxTime + 1, maxTime + 1, false}, {maxTime, 0, false}, {math.MinInt, math.MaxInt, false}, {0, math.MaxInt, false}, {math.MinInt, 9, false}, {1, -1, false},
	} {
		try(c.want, silence("s", `a="1"`, c.from, c.to))
		try(c.want, one("a"), silence("s", `a="1"`, c.from, c.to), one("t"))
	}
}

func TestSilencesFit(t *testing.T) {
	l := []impl.Silence{silence("A", `a="1",b!="2"`, 10, 20), silence("B", `a=~"*"`, 15, 15), silence("c", `b="2"`, 0, maxTime), silence("d", `none=""`, 20, 30)}
	for _, c := range []struct {
		labels []impl.Label
		at     int
		want   string
	}{
		{labelsOf("a", "1"), 9, ""}, {labelsOf("a", "1"), 10, "A"}, {labelsOf("a", "1"), 14, "A"}, {labelsOf("a", "1"), 15, "A B"}, {labelsOf("a", "1"), 16, "A"}, {labelsOf("a", "1"), 20, "A d"}, {labelsOf("a", "1"), 21, "d"}, {labelsOf("a", "1"), 30, "d"}, {labelsOf("a", "1"), 31, ""},
		{labelsOf("a", "1", "b", "2"), 15, "B c"}, {labelsOf("a", "2", "b", "2"), 20, "c d"}, {labelsOf("b", "2"), 0, "c"}, {labelsOf("b", "2"), maxTime, "c"}, {labelsOf("b", "2"), maxTime + 1, ""}, {labelsOf("b", "2"), -1, ""}, {labelsOf("b", "2"), math.MinInt, ""}, {labelsOf("b", "2"), math.MaxInt, ""},
		{nil, 15, "B"}, {nil, 25, "d"}, {labelsOf("none", "x"), 25, ""}, {manyLabels(20), 25, "d"}, {manyLabels(21), 25, ""},
	} {
		if got := strings.Join(checkSilences(t, l, c.labels, c.at), " "); got != c.want {
			t.Errorf("%v at %d: %q, not %q", c.labels, c.at, got, c.want)
		}
	}
	for _, bad := range badLabels() {
		if got := checkSilences(t, l, bad, 25); len(got) != 0 {
			t.Errorf("%v: %v", bad, got)
		}
	}
	for _, bad := range [][]impl.Silence{{l[1], l[0]}, {l[0], l[0]}, {silence("a", `a="1"`, 9, 8), silence("s", `a="1"`, 0, 90)}} {
		if got := checkSilences(t, bad, labelsOf("a", "1"), 15); len(got) != 0 {
			t.Errorf("%s: %v", shortly(bad), got)
		}
	}
	if got := checkSilences(t, nil, nil, 0); len(got) != 0 {
		t.Errorf("no silence: %v", got)
	}
}

func TestSilencesAtRandom(t *testing.T) {
	a := newEvalAsker(192)
	told := 0
	for range 10000 {
		var l []impl.Silence
		for _, id := range []string{"A", "a", "a1", "b", "c"} {
			x, y := a.Intn(12), a.Intn(12)
			if !likely(a.Rand, 20) {
				x, y = min(x, y), max(x, y)
			}
			if m := randomMatchers(a.Rand, 2); len(m) > 0 || likely(a.Rand, 30) {
				l = append(l, impl.Silence{Id: id, Match: m, From: x, To: y})
			}
		}
		told += len(checkSilences(t, l, randomLabels(a.Rand), a.Intn(13)))
	}
	if told < 3000 {
		t.Errorf("%d Ids were told", told)
	}
}

func inhibit(source string, target string, same ...string) impl.Inhibit {
	return impl.Inhibit{Source: matchersOf(source), Target: matchersOf(target), Same: same}
}

func goodInhibitsModel(l []impl.Inhibit) bool {
	good := len(l) <= 20
	for _, x := range l {
		good = good && len(x.Source) > 0 && len(x.Target) > 0 && goodMatchersModel(x.Source) && goodMatchersModel(x.Target) && len(x.Same) <= 10
		for i, name := range x.Same {
			good = good && isNameModel(name) && (i == 0 || x.Same[i-1] < name)
		}
	}
	return good
}

func allFitModel(m []impl.Matcher, l []impl.Label) bool {
	for _, x := range m {
		if !fitsModel(x, l) {
			return false
		}
	}
	return true
}

// inhibitedModel looks at all pairs, by lists of labels in maps.
func inhibitedModel(l []impl.Inhibit, firing [][]impl.Label, labels []impl.Label) bool {
	good := goodInhibitsModel(l) && len(firing) <= 200 && goodLabelsModel(labels)
	for _, f := range firing {
		good = good && goodLabelsModel(f)
	}
	if !good {
		return false
	}
	count := 0
	for _, f := range firing {
		for _, x := range l {
			same := true
			for _, name := range x.Same {
				same = same && toModel(f)[name] == toModel(labels)[name]
			}
			likes := allFitModel(x.Target, f) && allFitModel(x.Source, labels)
			if same && !likes && allFitModel(x.Source, f) && allFitModel(x.Target, labels) {
				count++
			}
		}
	}
	return count > 0
}

func checkInhibits(t *testing.T, l []impl.Inhibit, firing [][]impl.Label, labels []impl.Label) bool {
	t.Helper()
	arg, kept := guarded(l)
	if got := impl.GoodInhibits(arg); got != goodInhibitsModel(l) || !kept() {
		t.Fatalf("GoodInhibits of %s: %v", shortly(l), got)
	}
	fires, keptFires := guarded(firing)
	on, keptLabels := guarded(labels)
	got := impl.Inhibited(arg, fires, on)
	if got != inhibitedModel(l, firing, labels) || !kept() || !keptFires() || !keptLabels() {
		t.Fatalf("Inhibited %s, %s, %v: %v", shortly(l), shortly(firing), labels, got)
	}
	return got
}

func TestInhibitsThatAreGood(t *testing.T) {
	fires, on := [][]impl.Label{labelsOf("a", "1")}, labelsOf("b", "1")
	try := func(want bool, l ...impl.Inhibit) {
		t.Helper()
		if checkInhibits(t, l, fires, on); impl.GoodInhibits(l) != want {
			t.Errorf("%s is not %v", shortly(l), want)
		}
	}
	one := inhibit(`a="1"`, `b="1"`)
	for n, want := range map[int]bool{0: true, 1: true, 19: true, 20: true, 21: false, 30: false} {
		l := slices.Repeat([]impl.Inhibit{one}, n)
		try(want, l...)
		if checkInhibits(t, l, fires, on) != (want && n > 0) {
			t.Errorf("%d inhibits", n)
		}
	}
	some := matchersOf(`a="1"`)
	try(false, impl.Inhibit{})
	try(false, impl.Inhibit{Source: some})
	try(false, impl.Inhibit{Target: some})
	try(false, one, impl.Inhibit{Source: some})
	try(false, impl.Inhibit{Target: some}, one)
	for _, m := range badMatchers() {
		try(false, impl.Inhibit{Source: m, Target: some})
		try(false, impl.Inhibit{Source: some, Target: m})
		try(false, one, impl.Inhibit{Source: some, Target: append(matchersOf(`b="1"`), m...)})
	}
	try(true, impl.Inhibit{Source: manyMatchers(10), Target: manyMatchers(10)})
	names := []string{"A", "B", "_", "a", "b", "c", "d", "e", "f", "g"}
	try(true, inhibit(`a="1"`, `b="1"`, names...))
	try(false, inhibit(`a="1"`, `b="1"`, append(names, "h")...))
	for _, same := range [][]string{{"b", "a"}, {"a", "a"}, {"a", "c", "b"}, {"a", "b", "b"}, {""}, {"1"}, {"a b"}, {"a", "b-"}, {"é"}, {strings.Repeat("n", 41)}, {"", "a"}} {
		try(false, inhibit(`a="1"`, `b="1"`, same...))
		try(false, one, inhibit(`a="1"`, `b="1"`, same...))
	}
	try(true, inhibit(`a="1"`, `b="1"`, strings.Repeat("n", 40)))
}

func TestInhibitsInhibit(t *testing.T) {
	lists := func(l ...[]impl.Label) [][]impl.Label { return l }
	down := inhibit(`alert="Down"`, `alert="High"`, "job", "zone")
	wide := inhibit(`job="a"`, `alert=~"*"`)
	both := inhibit(`sev="1"`, `sev=~"1|2"`)
	high := labelsOf("alert", "High", "job", "a")
	for _, c := range []struct {
		name    string
		inhibit impl.Inhibit
		firing  [][]impl.Label
		labels  []impl.Label
		want    bool
	}{
		{"both fit", down, lists(labelsOf("alert", "Down", "job", "a")), high, true},
		{"nothing fires", down, nil, high, false},
		{"no source", down, lists(high, labelsOf("alert", "Up", "job", "a")), high, false},
		{"no target", down, lists(labelsOf("alert", "Down", "job", "a")), labelsOf("alert", "Low", "job", "a"), false},
		{"neither", down, lists(labelsOf("alert", "Up")), labelsOf("alert", "Low"), false},
		{"another job", down, lists(labelsOf("alert", "Down", "job", "b")), high, false},
		{"another job, then the same", down, lists(labelsOf("alert", "Down", "job", "b"), labelsOf("alert", "Down", "job", "a")), high, true},
		{"a zone that it alone has", down, lists(labelsOf("alert", "Down", "job", "a", "zone", "z")), high, false},
		{"a zone that the labels alone have", down, lists(labelsOf("alert", "Down", "job", "a")), labelsOf("alert", "High", "job", "a", "zone", "z"), false},
		{"one zone", down, lists(labelsOf("alert", "Down", "job", "a", "zone", "z")), labelsOf("alert", "High", "job", "a", "zone", "z"), true},
		{"neither has a job or a zone", down, lists(labelsOf("alert", "Down")), labelsOf("alert", "High", "x", "1"), true},
		{"other labels are not looked at", down, lists(labelsOf("alert", "Down", "job", "a", "x", "1")), labelsOf("alert", "High", "job", "a", "x", "2"), true},
		{"itself", both, lists(labelsOf("sev", "1")), labelsOf("sev", "1"), false},
		{"its like", both, lists(labelsOf("sev", "1", "x", "1")), labelsOf("sev", "1"), false},
		{"both here, the target alone there", both, lists(labelsOf("sev", "1")), labelsOf("sev", "2"), true},
		{"the target alone on both sides", both, lists(labelsOf("sev", "2")), labelsOf("sev", "2"), false},
		{"the target here, both there", both, lists(labelsOf("sev", "2")), labelsOf("sev", "1"), false},
		{"the source here, both there", inhibit(`a="1"`, `b="1"`), lists(labelsOf("a", "1")), labelsOf("a", "1", "b", "1"), true},
		{"both here, both there", inhibit(`a="1"`, `b="1"`), lists(labelsOf("a", "1", "b", "1")), labelsOf("a", "1", "b", "1", "c", "1"), false},
		{"both here, the target there", inhibit(`a="1"`, `b="1"`), lists(labelsOf("a", "1", "b", "1")), labelsOf("b", "1"), true},
		{"its like, then the source alone", inhibit(`a="1"`, `b="1"`), lists(labelsOf("a", "1", "b", "1"), labelsOf("a", "1")), labelsOf("a", "1", "b", "1"), true},
		{"all fit without labels", inhibit(`none=""`, `nix=""`), lists(nil), nil, false},
		{"without labels", inhibit(`none="",a="1"`, `nix=""`), lists(labelsOf("a", "1")), nil, true},
		{"a wide target, its source another one", wide, lists(labelsOf("job", "a", "x", "1")), labelsOf("alert", "High"), true},
	} {
		if got := checkInhibits(t, []impl.Inhibit{c.inhibit}, c.firing, c.labels); got != c.want {
			t.Errorf("%s: %v", c.name, got)
		}
		if got := checkInhibits(t, []impl.Inhibit{inhibit(`never="1"`, `never="2"`), c.inhibit}, c.firing, c.labels); got != c.want {
			t.Errorf("%s, as the second one: %v", c.name, got)
		}
		if checkInhibits(t, []impl.Inhibit{c.inhibit, {}}, c.firing, c.labels) {
			t.Errorf("%s, beside a bad one", c.name)
		}
	}
	if checkInhibits(t, nil, lists(labelsOf("a", "1")), labelsOf("a", "1")) {
		t.Error("no inhibit")
	}
	for n, want := range map[int]bool{199: true, 200: true, 201: false} {
		many := append(slices.Repeat([][]impl.Label{high}, n-1), labelsOf("alert", "Down", "job", "a"))
		if checkInhibits(t, []impl.Inhibit{down}, many, high) != want {
			t.Errorf("%d fire", n)
		}
	}
	fires := labelsOf("alert", "Down", "job", "a")
	for _, bad := range badLabels() {
		if checkInhibits(t, []impl.Inhibit{down}, lists(fires, bad), high) || checkInhibits(t, []impl.Inhibit{down}, lists(bad, fires), high) {
			t.Errorf("%v fires", bad)
		}
		if checkInhibits(t, []impl.Inhibit{inhibit(`alert="Down"`, `none=""`)}, lists(fires), bad) {
			t.Errorf("%v is inhibited", bad)
		}
	}
}

func TestInhibitsAtRandom(t *testing.T) {
	a := newEvalAsker(193)
	some := func() []impl.Matcher {
		for {
			if m := randomMatchers(a.Rand, 1); len(m) > 0 {
				return m
			}
		}
	}
	yes, tries := 0, 15000
	for range tries {
		var l []impl.Inhibit
		for range a.Intn(3) + 1 {
			x := impl.Inhibit{Source: some(), Target: some()}
			for _, name := range []string{"A", "a", "none"} {
				if likely(a.Rand, 4) {
					x.Same = append(x.Same, name)
				}
			}
			l = append(l, x)
		}
		var firing [][]impl.Label
		for range a.Intn(5) {
			firing = append(firing, randomLabels(a.Rand))
		}
		on := randomLabels(a.Rand)
		if likely(a.Rand, 3) {
			firing = append(firing, on)
		}
		if checkInhibits(t, l, firing, on) {
			yes++
		}
	}
	if yes < tries/20 || yes > tries*19/20 {
		t.Errorf("%d of %d are inhibited", yes, tries)
	}
}

func TestQuietAtNothing(t *testing.T) {
	if !impl.GoodInterval(impl.Interval{}) || !impl.GoodSilences(nil) || !impl.GoodInhibits(nil) || !impl.GoodSilences([]impl.Silence{}) {
		t.Error("nothing is good")
	}
	if impl.MaxRanges != 10 || impl.MaxSilences != 50 || impl.MaxInhibits != 20 {
		t.Error("the limits")
	}
}
