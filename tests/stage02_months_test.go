package tests

import (
	"fmt"
	"math"
	"math/rand"
	"strings"
	"testing"

	"loop.example/g01025/impl"
)

// lastMonth is December 2999, the greatest month.
const lastMonth = impl.MaxMonth - 1

// noMonths are numbers that are not in the range of months.
var noMonths = []int64{-1, impl.MaxMonth, -12, impl.MaxMonth + 12, math.MinInt64, math.MinInt64 + 1, math.MaxInt64 - 1, math.MaxInt64}

// months are some months with their years, months of the year, and texts.
var months = []struct {
	n, year, number int64
	s               string
}{
	{0, 0, 1, "0000-01"},
	{1, 0, 2, "0000-02"},
	{11, 0, 12, "0000-12"},
	{12, 1, 1, "0001-01"},
	{119, 9, 12, "0009-12"},
	{120, 10, 1, "0010-01"},
	{1199, 99, 12, "0099-12"},
	{1200, 100, 1, "0100-01"},
	{11999, 999, 12, "0999-12"},
	{12000, 1000, 1, "1000-01"},
	{22888, 1907, 5, "1907-05"},
	{24312, 2026, 1, "2026-01"},
	{24320, 2026, 9, "2026-09"},
	{24321, 2026, 10, "2026-10"},
	{24323, 2026, 12, "2026-12"},
	{lastMonth - 12, 2998, 12, "2998-12"},
	{lastMonth - 11, 2999, 1, "2999-01"},
	{lastMonth - 1, 2999, 11, "2999-11"},
	{lastMonth, 2999, 12, "2999-12"},
}

func TestMonthsConstant(t *testing.T) {
	if impl.MaxMonth != 36000 {
		t.Errorf("MaxMonth = %d", int64(impl.MaxMonth))
	}
}

func TestMonthsOfYears(t *testing.T) {
	for _, c := range months {
		if n, code := impl.MonthOf(c.year, c.number); n != c.n || code != impl.ErrNone {
			t.Errorf("MonthOf(%d, %d) = %d, %d; want %d", c.year, c.number, n, code, c.n)
		}
		if year, number, code := impl.YearOf(c.n); year != c.year || number != c.number || code != impl.ErrNone {
			t.Errorf("YearOf(%d) = %d, %d, %d; want %d, %d", c.n, year, number, code, c.year, c.number)
		}
		if s := impl.MonthText(c.n); s != c.s {
			t.Errorf("MonthText(%d) = %q; want %q", c.n, s, c.s)
		}
		if n, ok := impl.ReadMonth(c.s); n != c.n || !ok {
			t.Errorf("ReadMonth(%q) = %d, %v; want %d", c.s, n, ok, c.n)
		}
	}
}

// TestEveryMonthIsFound counts all months in their order, and finds each of them from its year and its text.
func TestEveryMonthIsFound(t *testing.T) {
	n := int64(0)
	for year := int64(0); year <= 2999; year++ {
		for number := int64(1); number <= 12; number++ {
			if got, code := impl.MonthOf(year, number); got != n || code != impl.ErrNone {
				t.Fatalf("MonthOf(%d, %d) = %d, %d; want %d", year, number, got, code, n)
			}
			if y, m, code := impl.YearOf(n); y != year || m != number || code != impl.ErrNone {
				t.Fatalf("YearOf(%d) = %d, %d, %d; want %d, %d", n, y, m, code, year, number)
			}
			want := fmt.Sprintf("%04d-%02d", year, number)
			if s := impl.MonthText(n); s != want {
				t.Fatalf("MonthText(%d) = %q; want %q", n, s, want)
			}
			if got, ok := impl.ReadMonth(want); got != n || !ok {
				t.Fatalf("ReadMonth(%q) = %d, %v; want %d", want, got, ok, n)
			}
			n++
		}
	}
	if n != impl.MaxMonth {
		t.Errorf("there are %d months", n)
	}
}

func TestNoMonthsOfYears(t *testing.T) {
	for _, c := range []struct{ year, number int64 }{
		{-1, 1},
		{-1, 12},
		{3000, 1},
		{3000, 12},
		{0, 0},
		{2999, 13},
		{1907, 0},
		{1907, 13},
		{1907, -1},
		// These have a number in the range of months, and are none.
		{1, -11},
		{-1, 13},
		{3000, 0},
		{0, impl.MaxMonth},
		{math.MinInt64, 1},
		{math.MaxInt64, 1},
		{1, math.MinInt64},
		{1, math.MaxInt64},
		{math.MaxInt64, math.MaxInt64},
		{1 << 62, 1}, // 12 times this number wraps around to 0
	} {
		if n, code := impl.MonthOf(c.year, c.number); n != 0 || code != impl.ErrRange {
			t.Errorf("MonthOf(%d, %d) = %d, %d", c.year, c.number, n, code)
		}
	}
	for _, n := range noMonths {
		if year, number, code := impl.YearOf(n); year != 0 || number != 0 || code != impl.ErrRange {
			t.Errorf("YearOf(%d) = %d, %d, %d", n, year, number, code)
		}
		if s := impl.MonthText(n); s != "" {
			t.Errorf("MonthText(%d) = %q", n, s)
		}
	}
}

func TestNoTextsOfMonths(t *testing.T) {
	for _, s := range []string{
		"", "-", "--", "0", "1907", "1907-", "-05", "05", "190705", "1907-0", "1907-5", "907-05", "07-05", "7-5",
		"1907-00", "1907-13", "1907-20", "1907-99", "0000-00", "2999-13", "3000-00", "3000-01", "9999-12",
		"01907-05", "1907-005", "19070-5", "190-705", "001907-05", "10000-01",
		"-1907-05", "+1907-05", "+907-05", "1907-+5", "1907--5", "1907--05", "1907-05-", "-907-05", "1907-05-01", "-001-13", "0001--1",
		"1907/05", "1907.05", "1907_05", "1907 05", "1907:05", "1907\u221205", "1907\u201305",
		" 1907-05", "1907-05 ", "1907 -05", "1907- 5", " 907-05", "1907-05\n", "1907-05\x00", "\x001907-05",
		"1_07-05", "0x07-05", "1e03-05", "19o7-05", "1907-O5", "1907-0a", "1907-0\xff",
		"\u0661907-05", "\uff11\uff19\uff10\uff17-05", "1907-\u0660\u0665", "May 1907",
		"18446744073709551616-05", "18446744073709553523-05", "1907-18446744073709551621",
		strings.Repeat("9", 5000) + "-05", strings.Repeat("0", 5000) + "1907-05", "1907-" + strings.Repeat("0", 5000) + "5",
		"nil", "true",
	} {
		if n, ok := impl.ReadMonth(s); n != 0 || ok {
			t.Errorf("ReadMonth(%q) = %d, %v", s, n, ok)
		}
	}
}

// TestTextsNearMonths changes texts of months in one byte: what is read then has just that text.
func TestTextsNearMonths(t *testing.T) {
	texts := map[string]int64{}
	for n := int64(0); n < impl.MaxMonth; n++ {
		texts[fmt.Sprintf("%04d-%02d", n/12, n%12+1)] = n
	}
	check := func(s string) {
		t.Helper()
		want, isText := texts[s]
		if n, ok := impl.ReadMonth(s); n != want || ok != isText {
			t.Errorf("ReadMonth(%q) = %d, %v; want %d, %v", s, n, ok, want, isText)
		}
	}
	for _, c := range months {
		for i := 0; i <= len(c.s); i++ {
			check(c.s[:i])
			check(c.s[i:])
			for b := range 256 {
				check(c.s[:i] + string([]byte{byte(b)}) + c.s[i:])
				if i < len(c.s) {
					check(c.s[:i] + string([]byte{byte(b)}) + c.s[i+1:])
				}
			}
			if i < len(c.s) {
				check(c.s[:i] + c.s[i+1:])
			}
		}
	}
}

func TestAges(t *testing.T) {
	for _, c := range []struct{ born, n, years, further int64 }{
		{0, 0, 0, 0},
		{1000, 1000, 0, 0},
		{1000, 1001, 0, 1},
		{1000, 1011, 0, 11},
		{1000, 1012, 1, 0},
		{1000, 1023, 1, 11},
		{1000, 1024, 2, 0},
		{1000, 1030, 2, 6},
		// The new year is no birthday.
		{11, 12, 0, 1},
		{11, 22, 0, 11},
		{11, 23, 1, 0},
		{22888, 24322, 119, 6},
		{0, lastMonth, 2999, 11},
		{11, lastMonth, 2999, 0},
		{12, lastMonth, 2998, 11},
		{lastMonth - 12, lastMonth, 1, 0},
		{lastMonth - 11, lastMonth, 0, 11},
		{lastMonth, lastMonth, 0, 0},
	} {
		if age, code := impl.AgeIn(c.born, c.n); age != c.years || code != impl.ErrNone {
			t.Errorf("AgeIn(%d, %d) = %d, %d; want %d", c.born, c.n, age, code, c.years)
		}
		if years, further, code := impl.FullYears(c.born, c.n); years != c.years || further != c.further || code != impl.ErrNone {
			t.Errorf("FullYears(%d, %d) = %d, %d, %d; want %d, %d", c.born, c.n, years, further, code, c.years, c.further)
		}
	}
}

func TestNextBirthdays(t *testing.T) {
	for _, c := range []struct{ born, n, want, code int64 }{
		{1000, 1000, 1012, impl.ErrNone},
		{1000, 1001, 1012, impl.ErrNone},
		{1000, 1011, 1012, impl.ErrNone},
		// A birthday in the month itself is not the next one.
		{1000, 1012, 1024, impl.ErrNone},
		{1000, 1013, 1024, impl.ErrNone},
		{0, 0, 12, impl.ErrNone},
		{11, 12, 23, impl.ErrNone},
		{0, lastMonth - 12, lastMonth - 11, impl.ErrNone},
		{0, lastMonth - 11, 0, impl.ErrLimit},
		{0, lastMonth, 0, impl.ErrLimit},
		{11, lastMonth - 12, lastMonth, impl.ErrNone},
		{11, lastMonth - 1, lastMonth, impl.ErrNone},
		{11, lastMonth, 0, impl.ErrLimit},
		{lastMonth - 12, lastMonth - 12, lastMonth, impl.ErrNone},
		{lastMonth - 12, lastMonth - 1, lastMonth, impl.ErrNone},
		{lastMonth - 12, lastMonth, 0, impl.ErrLimit},
		{lastMonth - 11, lastMonth - 11, 0, impl.ErrLimit},
		{lastMonth, lastMonth, 0, impl.ErrLimit},
	} {
		if n, code := impl.NextBirthday(c.born, c.n); n != c.want || code != c.code {
			t.Errorf("NextBirthday(%d, %d) = %d, %d; want %d, %d", c.born, c.n, n, code, c.want, c.code)
		}
	}
}

// checkLife follows somebody from the month of the birth through many months.
func checkLife(t *testing.T, born int64, end int64) {
	t.Helper()
	age, further := int64(0), int64(0)
	birthdays := []int64{}
	for n := born; n <= end; n++ {
		if n > born {
			further++
		}
		if further == 12 {
			age, further = age+1, 0
			birthdays = append(birthdays, n)
		}
		if got, code := impl.AgeIn(born, n); got != age || code != impl.ErrNone {
			t.Fatalf("AgeIn(%d, %d) = %d, %d; want %d", born, n, got, code, age)
		}
		if y, m, code := impl.FullYears(born, n); y != age || m != further || code != impl.ErrNone {
			t.Fatalf("FullYears(%d, %d) = %d, %d, %d; want %d, %d", born, n, y, m, code, age, further)
		}
	}
	for n := born; n <= end; n++ {
		if len(birthdays) > 0 && birthdays[0] <= n {
			birthdays = birthdays[1:]
		}
		want, wantCode := int64(0), int64(impl.ErrLimit)
		if len(birthdays) > 0 {
			want, wantCode = birthdays[0], impl.ErrNone
		} else if end < lastMonth {
			break
		}
		if got, code := impl.NextBirthday(born, n); got != want || code != wantCode {
			t.Fatalf("NextBirthday(%d, %d) = %d, %d; want %d, %d", born, n, got, code, want, wantCode)
		}
	}
}

func TestAgesGrowByOneAtBirthdaysOnly(t *testing.T) {
	for born := int64(0); born <= 30; born++ {
		checkLife(t, born, 150)
	}
	for born := int64(lastMonth - 30); born <= lastMonth; born++ {
		checkLife(t, born, lastMonth)
	}
	checkLife(t, 0, lastMonth)
	checkLife(t, 5, lastMonth)
	random := rand.New(rand.NewSource(2))
	for range 100 {
		born := random.Int63n(impl.MaxMonth)
		checkLife(t, born, min(born+1500, lastMonth))
	}
}

func TestErrorsOfAges(t *testing.T) {
	check := func(born, n, want int64) {
		t.Helper()
		if age, code := impl.AgeIn(born, n); age != 0 || code != want {
			t.Errorf("AgeIn(%d, %d) = %d, %d; want %d", born, n, age, code, want)
		}
		if next, code := impl.NextBirthday(born, n); next != 0 || code != want {
			t.Errorf("NextBirthday(%d, %d) = %d, %d; want %d", born, n, next, code, want)
		}
		if years, further, code := impl.FullYears(born, n); years != 0 || further != 0 || code != want {
			t.Errorf("FullYears(%d, %d) = %d, %d, %d; want %d", born, n, years, further, code, want)
		}
	}
	for _, c := range []struct{ born, n int64 }{
		{1, 0},
		{1000, 999},
		{1000, 988},
		{1000, 0},
		{lastMonth, 0},
		{lastMonth, lastMonth - 1},
	} {
		check(c.born, c.n, impl.ErrState)
	}
	// A month that is none counts first, whichever of the two is the lesser one.
	for _, n := range noMonths {
		check(n, 0, impl.ErrRange)
		check(n, 1000, impl.ErrRange)
		check(n, lastMonth, impl.ErrRange)
		check(0, n, impl.ErrRange)
		check(1000, n, impl.ErrRange)
		check(lastMonth, n, impl.ErrRange)
		for _, other := range noMonths {
			check(n, other, impl.ErrRange)
		}
	}
}

func TestAddMonths(t *testing.T) {
	for _, c := range []struct{ n, by, want, code int64 }{
		{22888, 0, 22888, impl.ErrNone},
		{22888, 6, 22894, impl.ErrNone},
		{22888, -6, 22882, impl.ErrNone},
		{0, 0, 0, impl.ErrNone},
		{0, lastMonth, lastMonth, impl.ErrNone},
		{lastMonth, 0, lastMonth, impl.ErrNone},
		{lastMonth, -lastMonth, 0, impl.ErrNone},
		{lastMonth - 1, 1, lastMonth, impl.ErrNone},
		{1, -1, 0, impl.ErrNone},
		{0, -1, 0, impl.ErrLimit},
		{lastMonth, 1, 0, impl.ErrLimit},
		{22888, -22889, 0, impl.ErrLimit},
		{22888, impl.MaxMonth - 22888, 0, impl.ErrLimit},
		{0, impl.MaxMonth, 0, impl.ErrLimit},
		{0, -impl.MaxMonth, 0, impl.ErrLimit},
		{lastMonth, impl.MaxMonth, 0, impl.ErrLimit},
		{lastMonth, -impl.MaxMonth, 0, impl.ErrLimit},
		{22888, impl.MaxMonth + 1, 0, impl.ErrRange},
		{22888, -impl.MaxMonth - 1, 0, impl.ErrRange},
		{0, math.MaxInt64, 0, impl.ErrRange},
		{lastMonth, math.MaxInt64, 0, impl.ErrRange},
		{0, math.MinInt64, 0, impl.ErrRange},
		{lastMonth, math.MinInt64, 0, impl.ErrRange},
	} {
		if n, code := impl.AddMonths(c.n, c.by); n != c.want || code != c.code {
			t.Errorf("AddMonths(%d, %d) = %d, %d; want %d, %d", c.n, c.by, n, code, c.want, c.code)
		}
	}
	for _, n := range noMonths {
		// What is no month is wrong even if the sum is one, and before the sum is looked at.
		for _, by := range []int64{0, 1, -1, 12, -12, impl.MaxMonth, -impl.MaxMonth, impl.MaxMonth + 1, math.MinInt64, math.MaxInt64} {
			if later, code := impl.AddMonths(n, by); later != 0 || code != impl.ErrRange {
				t.Errorf("AddMonths(%d, %d) = %d, %d", n, by, later, code)
			}
		}
	}
}

func TestAddMonthsCanBeUndone(t *testing.T) {
	random := rand.New(rand.NewSource(3))
	for range 20000 {
		n, by := random.Int63n(impl.MaxMonth), random.Int63n(2*impl.MaxMonth+1)-impl.MaxMonth
		later, code := impl.AddMonths(n, by)
		if sum := n + by; sum < 0 || sum > lastMonth {
			if later != 0 || code != impl.ErrLimit {
				t.Errorf("AddMonths(%d, %d) = %d, %d", n, by, later, code)
			}
			continue
		}
		if code != impl.ErrNone {
			t.Errorf("AddMonths(%d, %d) = %d, %d", n, by, later, code)
		}
		if back, code := impl.AddMonths(later, -by); back != n || code != impl.ErrNone {
			t.Errorf("AddMonths(%d, %d) = %d, %d; want %d", later, -by, back, code, n)
		}
	}
}
