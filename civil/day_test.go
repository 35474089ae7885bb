package civil

import (
	"math"
	"math/rand"
	"testing"
	"time"

	"sundial/api"
)

// days is how many days have a number.
const days = 2958464

func date(year, month, day int) api.Date { return api.Date{Year: year, Month: month, Day: day} }

// calendarDay is the date of a number, by another calendar than the program's.
func calendarDay(n int) api.Date {
	year, month, day := time.Date(1900, 1, 1+n, 0, 0, 0, 0, time.UTC).Date()
	return date(year, int(month), day)
}

// wrongDates are no dates: just beyond the ends of each part, and far beyond them.
func wrongDates() []api.Date {
	all := []api.Date{
		{}, date(1899, 12, 31), date(1899, 1, 1), date(10000, 1, 1), date(10000, 12, 31), date(0, 1, 1), date(-1, 1, 1), date(-1900, 1, 1), date(1896, 2, 29), date(26, 11, 15),
		date(1900, 2, 29), date(2000, 2, 30), date(2100, 2, 29), date(2026, 2, 29), date(2024, 2, 30), date(9999, 2, 29), date(9999, 12, 32), date(9999, 13, 1), date(1900, 1, 0), date(1900, 0, 1), date(1900, 0, 31),
		date(2026, 13, 1), date(2026, 13, 0), date(2026, 12, 32), date(2026, -11, 15), date(2026, 11, -15), date(-2026, 11, 15), date(2026, 0, 0),
		// These look like dates, if a part is cut to fewer bits.
		date(2026+1<<32, 11, 15), date(2026, 11+1<<32, 15), date(2026, 11, 15+1<<32), date(2026+1<<16, 11, 15), date(2026, 11+1<<8, 15), date(2026, 11, 15+1<<8),
	}
	for _, wild := range []int{math.MinInt, math.MinInt + 1, math.MinInt32, math.MaxInt32, math.MaxInt - 1, math.MaxInt} {
		all = append(all, date(wild, 1, 1), date(2026, wild, 1), date(2026, 11, wild), date(wild, wild, wild))
	}
	lengths := []int{31, 28, 31, 30, 31, 30, 31, 31, 30, 31, 30, 31}
	for _, year := range []int{1900, 1999, 2026, 2100, 9999} {
		for i, length := range lengths {
			all = append(all, date(year, i+1, length+1), date(year, i+1, 0), date(year, i+1, -1))
		}
	}
	return all
}

// P3.1
func TestLeapExamples(t *testing.T) {
	for year, want := range map[int]bool{
		1900: false, 1904: true, 1999: false, 2000: true, 2001: false, 2024: true, 2026: false, 2100: false, 2200: false, 2300: false, 2400: true, 9996: true, 9999: false, 10000: true,
		0: true, 1: false, 2: false, 3: false, 4: true, 100: false, 400: true, -1: false, -2: false, -3: false, -4: true, -100: false, -200: false, -300: false, -400: true, -404: true, -500: false,
		math.MaxInt: false, math.MaxInt - 3: true, math.MinInt: true, math.MinInt + 1: false, math.MinInt + 4: true, math.MinInt + 8: false,
	} {
		if Leap(year) != want {
			t.Errorf("Leap(%d) = %v", year, !want)
		}
	}
}

func TestLeapIsOfFourHundredYears(t *testing.T) {
	// The calendar of 400 years comes again, so each year is held against one of the library's.
	for year := -1200; year <= 12000; year++ {
		same := 2000 + (year%400+400)%400
		want := time.Date(same, 12, 31, 0, 0, 0, 0, time.UTC).YearDay() == 366
		if Leap(year) != want {
			t.Errorf("Leap(%d) = %v", year, !want)
		}
	}
}

func TestNumberAndDayExamples(t *testing.T) {
	for _, r := range []struct {
		d api.Date
		n int
	}{
		{date(1900, 1, 1), 0}, {date(1900, 1, 2), 1}, {date(1900, 1, 31), 30}, {date(1900, 2, 1), 31}, {date(1900, 2, 28), 58}, {date(1900, 3, 1), 59}, {date(1900, 12, 31), 364},
		{date(1901, 1, 1), 365}, {date(1904, 2, 29), 1519}, {date(1970, 1, 1), 25567}, {date(1972, 1, 1), 26297},
		{date(2000, 2, 28), 36582}, {date(2000, 2, 29), 36583}, {date(2000, 3, 1), 36584}, {date(2026, 11, 15), 46339},
		{date(2100, 2, 28), 73107}, {date(2100, 3, 1), 73108}, {date(9999, 1, 1), 2958099}, {date(9999, 12, 30), 2958462}, {date(9999, 12, 31), 2958463},
	} {
		if n, e := Number(r.d); n != r.n || e != api.OK {
			t.Errorf("Number(%v) = %d, %v; want %d", r.d, n, e, r.n)
		}
		if d, e := Day(r.n); d != r.d || e != api.OK {
			t.Errorf("Day(%d) = %v, %v; want %v", r.n, d, e, r.d)
		}
	}
}

func TestDayRefusesWhatIsNoNumber(t *testing.T) {
	for _, n := range []int{-1, -2, -365, days, days + 1, days + 365, 1 << 32, 1<<32 + 59, -1 << 32, math.MaxInt32, math.MinInt32, math.MaxInt, math.MaxInt - 1, math.MinInt, math.MinInt + 1} {
		if d, e := Day(n); d != (api.Date{}) || e != api.ErrRange {
			t.Errorf("Day(%d) = %v, %v", n, d, e)
		}
	}
}

func TestWrongDatesAreRefused(t *testing.T) {
	for _, d := range wrongDates() {
		refuseDate(t, d)
	}
}

// refuseDate holds every call that takes a date to ErrShape of d.
func refuseDate(t *testing.T, d api.Date) {
	t.Helper()
	if n, e := Number(d); n != 0 || e != api.ErrShape {
		t.Errorf("Number(%v) = %d, %v", d, n, e)
	}
	if last, e := Last(d); last != (api.Date{}) || e != api.ErrShape {
		t.Errorf("Last(%v) = %v, %v", d, last, e)
	}
	if w, e := Weekday(d); w != 0 || e != api.ErrShape {
		t.Errorf("Weekday(%v) = %d, %v", d, w, e)
	}
	if s, e := Text(d); s != "" || e != api.ErrShape {
		t.Errorf("Text(%v) = %q, %v", d, s, e)
	}
	if x, e := Tell(api.Clockface{Date: d}); x != 0 || e != api.ErrShape {
		t.Errorf("Tell(%v) = %d, %v", d, x, e)
	}
}

// isCalendarDate asks another calendar than the program's, which brings days that are too many into the next month.
func isCalendarDate(d api.Date) bool {
	if d.Year < 1900 || d.Year > 9999 {
		return false
	}
	year, month, day := time.Date(d.Year, time.Month(d.Month), d.Day, 0, 0, 0, 0, time.UTC).Date()
	return d == date(year, int(month), day)
}

func TestJustDatesAreTaken(t *testing.T) {
	for _, year := range []int{1899, 1900, 1901, 1903, 1904, 1999, 2000, 2001, 2024, 2026, 2100, 2400, 9996, 9999, 10000} {
		for month := -1; month <= 14; month++ {
			for day := -1; day <= 33; day++ {
				d := date(year, month, day)
				if !isCalendarDate(d) {
					refuseDate(t, d)
				} else if n, e := Number(d); e != api.OK || calendarDay(n) != d {
					t.Errorf("Number(%v) = %d, %v", d, n, e)
				}
			}
		}
	}
}

// P3.2
func TestLastExamples(t *testing.T) {
	for _, r := range []struct {
		d    api.Date
		want int
	}{
		{date(2024, 2, 3), 29}, {date(2024, 2, 29), 29}, {date(2026, 2, 1), 28}, {date(1900, 2, 28), 28}, {date(2000, 2, 1), 29}, {date(2100, 2, 1), 28}, {date(2400, 2, 1), 29},
		{date(2026, 1, 1), 31}, {date(2026, 3, 31), 31}, {date(2026, 4, 1), 30}, {date(2026, 5, 2), 31}, {date(2026, 6, 30), 30}, {date(2026, 7, 7), 31},
		{date(2026, 8, 8), 31}, {date(2026, 9, 9), 30}, {date(2026, 10, 10), 31}, {date(2026, 11, 15), 30}, {date(2026, 12, 1), 31}, {date(1900, 1, 1), 31}, {date(9999, 12, 31), 31},
	} {
		want := date(r.d.Year, r.d.Month, r.want)
		if got, e := Last(r.d); got != want || e != api.OK {
			t.Errorf("Last(%v) = %v, %v; want %v", r.d, got, e, want)
		}
	}
}

func TestWeekdayExamples(t *testing.T) {
	for i, d := range []api.Date{date(1900, 1, 1), date(1900, 1, 2), date(1900, 1, 3), date(1900, 1, 4), date(1900, 1, 5), date(1900, 1, 6), date(1900, 1, 7)} {
		if got, e := Weekday(d); got != i+1 || e != api.OK {
			t.Errorf("Weekday(%v) = %d, %v; want %d", d, got, e, i+1)
		}
	}
	for d, want := range map[api.Date]int{date(1900, 1, 8): 1, date(2000, 2, 29): 2, date(2026, 11, 15): 7, date(2026, 11, 16): 1, date(2026, 11, 18): 3, date(9999, 12, 31): 5} {
		if got, e := Weekday(d); got != want || e != api.OK {
			t.Errorf("Weekday(%v) = %d, %v; want %d", d, got, e, want)
		}
	}
}

// P3.1, P3.2, P3.3 and P3.5, of every day there is.
func TestEveryDay(t *testing.T) {
	earlier, earlierText := api.Date{}, ""
	for n := range days {
		want := calendarDay(n)
		d, e := Day(n)
		if d != want || e != api.OK {
			t.Fatalf("Day(%d) = %v, %v; want %v", n, d, e, want)
		}
		if back, e := Number(d); back != n || e != api.OK {
			t.Fatalf("Number(%v) = %d, %v; want %d", d, back, e, n)
		}
		last, e := Last(d)
		if e != api.OK || last.Year != d.Year || last.Month != d.Month || calendarDay(n+1+last.Day-d.Day).Day != 1 {
			t.Fatalf("Last(%v) = %v, %v", d, last, e)
		}
		if w, e := Weekday(d); w != n%7+1 || e != api.OK {
			t.Fatalf("Weekday(%v) = %d, %v", d, w, e)
		}
		text, e := Text(d)
		if e != api.OK || text <= earlierText || !isLater(d, earlier) {
			t.Fatalf("Text(%v) = %q, %v, behind %v and %q", d, text, e, earlier, earlierText)
		}
		if back, e := Parse(text); back != d || e != api.OK {
			t.Fatalf("Parse(%q) = %v, %v", text, back, e)
		}
		earlier, earlierText = d, text
	}
}

func isLater(a, b api.Date) bool {
	if a.Year != b.Year {
		return a.Year > b.Year
	}
	if a.Month != b.Month {
		return a.Month > b.Month
	}
	return a.Day > b.Day
}

// P3.5
func TestDatesRiseAsTheirNumbersAndTextsDo(t *testing.T) {
	r := rand.New(rand.NewSource(35))
	for range 100000 {
		m, n := r.Intn(days), r.Intn(days)
		a, _ := Day(m)
		b, _ := Day(n)
		one, _ := Text(a)
		other, _ := Text(b)
		if isLater(a, b) != (m > n) || (one > other) != (m > n) || (a == b) != (m == n) || (one == other) != (m == n) {
			t.Fatal(m, n, a, b, one, other)
		}
	}
}
