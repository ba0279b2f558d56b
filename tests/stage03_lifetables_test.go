package tests

import (
	"fmt"
	"math"
	"math/big"
	"math/rand"
	"regexp"
	"slices"
	"strings"
	"testing"

	"loop.example/g01025/impl"
)

// table returns a value of the type LifeTable, which need not be a life table.
func table(first int64, lives ...int64) impl.LifeTable {
	return impl.LifeTable{First: first, Lives: lives}
}

// slowTable returns a table with n numbers that begins with lives and loses one of them a year until the end, where it is 0.
func slowTable(first int64, lives int64, n int) impl.LifeTable {
	list := make([]int64, n)
	for i := range n - 1 {
		list[i] = max(lives-int64(i), 1)
	}
	return impl.LifeTable{First: first, Lives: list}
}

// randomTable returns a life table that is made by chance.
func randomTable(random *rand.Rand) impl.LifeTable {
	first := random.Int63n(101)
	n := 2 + random.Int63n(min(119, impl.MaxAge-first))
	list := make([]int64, n)
	top := []int64{1, 3, 50, impl.MaxLives}[random.Intn(4)]
	for i := range n - 1 {
		list[i] = 1 + random.Int63n(top)
	}
	slices.SortFunc(list[:n-1], func(a, b int64) int { return int(b - a) })
	return impl.LifeTable{First: first, Lives: list}
}

// sampleTables are life tables at the limits and between them.
func sampleTables() []impl.LifeTable {
	list := []impl.LifeTable{
		table(60, 100, 90, 72, 36, 0),
		table(0, 1, 0),
		table(0, impl.MaxLives, 0),
		table(100, 7, 7, 7, 0),
		table(100, impl.MaxLives, impl.MaxLives, 1, 1, 0),
		table(17, 12, 11, 7, 5, 3, 2, 1, 0),
		table(99, 1, 1, 1, 1, 1, 0),
		slowTable(0, 5, 120),
		slowTable(31, impl.MaxLives, 120),
		slowTable(30, 60, 120),
		slowTable(100, 1, 51),
		slowTable(100, impl.MaxLives, 51),
		{First: 31, Lives: append(fill(119, impl.MaxLives), 0)},
		{First: 0, Lives: append(fill(119, 1), 0)},
	}
	random := rand.New(rand.NewSource(31))
	for range 60 {
		list = append(list, randomTable(random))
	}
	return list
}

// endOf returns the age at which no lives of a life table are left for the first time.
func endOf(t impl.LifeTable) int64 {
	return t.First + int64(slices.Index(t.Lives, 0))
}

// leftAt looks the lives at an age up in a life table.
func leftAt(t impl.LifeTable, age int64) int64 {
	if age >= endOf(t) {
		return 0
	}
	return t.Lives[age-t.First]
}

// noTables are values that are no life tables.
func noTables() map[string]impl.LifeTable {
	return map[string]impl.LifeTable{
		"zero value":               {},
		"no lives":                 table(60),
		"empty lives":              {First: 60, Lives: []int64{}},
		"one number":               table(60, 100),
		"0 only":                   table(60, 0),
		"121 numbers":              slowTable(0, 200, 121),
		"very many numbers":        slowTable(0, 200, 5000),
		"First below 0":            table(-1, 5, 0),
		"First over 100":           table(101, 5, 0),
		"least First":              table(math.MinInt64, 5, 0),
		"greatest First":           table(math.MaxInt64, 5, 0),
		"end at 151":               slowTable(100, 60, 52),
		"end at 151, many numbers": slowTable(32, 200, 120),
		"no lives at First":        table(60, 0, 0),
		"too many lives":           table(60, impl.MaxLives+1, 0),
		"too many lives, later":    table(60, impl.MaxLives, impl.MaxLives+1, 0),
		"greatest lives":           table(60, math.MaxInt64, 0),
		"negative lives":           table(60, -5, 0),
		"least lives":              table(60, 5, math.MinInt64, 0),
		"more lives later":         table(60, 100, 101, 0),
		"more lives much later":    table(60, 100, 90, 80, 81, 5, 0),
		"more lives before 0":      table(60, 100, 5, 6, 0),
		"last one is 1":            table(60, 100, 90, 1),
		"last one is -1":           table(60, 100, 90, -1),
		"last one is the first":    table(60, 100, 100),
		"0 twice":                  table(60, 100, 0, 0),
		"0 between":                table(60, 100, 0, 50, 0),
		"negative between":         table(60, 100, -1, 0),
		"0 first":                  table(60, 0, 100, 0),
		"all wrong":                table(-7, 0, 8, -1),
	}
}

func TestLifeTablesConstants(t *testing.T) {
	if impl.MaxAge != 150 || impl.MaxLives != 1000000 {
		t.Errorf("MaxAge = %d, MaxLives = %d", int64(impl.MaxAge), int64(impl.MaxLives))
	}
}

func TestIsLifeTable(t *testing.T) {
	for _, x := range sampleTables() {
		if !impl.IsLifeTable(x) {
			t.Errorf("IsLifeTable(%v) is false", x)
		}
	}
	for name, x := range noTables() {
		if impl.IsLifeTable(x) {
			t.Errorf("%s: IsLifeTable(%v) is true", name, x)
		}
	}
}

// TestEndsOfLifeTables tries all lengths at all first ages: the end is at most MaxAge, and there are at most 120 numbers.
func TestEndsOfLifeTables(t *testing.T) {
	for first := int64(-2); first <= 103; first++ {
		for n := 1; n <= 125; n++ {
			want := first >= 0 && first <= 100 && n >= 2 && n <= 120 && first+int64(n)-1 <= impl.MaxAge
			if got := impl.IsLifeTable(slowTable(first, 300, n)); got != want {
				t.Errorf("IsLifeTable is %v for %d numbers from the age %d on", got, n, first)
			}
		}
	}
}

// TestSmallLifeTables tries all lists of a few small numbers.
func TestSmallLifeTables(t *testing.T) {
	for _, n := range []int{1, 2, 3, 4, 5} {
		list := fill(n, -1)
		for {
			falls := n >= 2 && list[0] >= 1 && list[n-1] == 0
			for i := 1; i < n; i++ {
				falls = falls && list[i] <= list[i-1] && (list[i] > 0 || i == n-1)
			}
			if got := impl.IsLifeTable(impl.LifeTable{First: 5, Lives: list}); got != falls {
				t.Errorf("IsLifeTable is %v for %v", got, list)
			}
			i := 0
			for ; i < n && list[i] == 3; i++ {
				list[i] = -1
			}
			if i == n {
				break
			}
			list[i]++
		}
	}
}

func TestLivesAndDeathsExamples(t *testing.T) {
	x := table(60, 100, 90, 72, 36, 0)
	for _, c := range []struct{ age, lives, deaths, code int64 }{
		{60, 100, 10, impl.ErrNone},
		{61, 90, 18, impl.ErrNone},
		{62, 72, 36, impl.ErrNone},
		{63, 36, 36, impl.ErrNone},
		{64, 0, 0, impl.ErrNone},
		{65, 0, 0, impl.ErrNone},
		{120, 0, 0, impl.ErrNone},
		{149, 0, 0, impl.ErrNone},
		{150, 0, 0, impl.ErrNone},
		{59, 0, 0, impl.ErrRange},
		{0, 0, 0, impl.ErrRange},
		{-1, 0, 0, impl.ErrRange},
		{151, 0, 0, impl.ErrRange},
		{math.MinInt64, 0, 0, impl.ErrRange},
		{math.MaxInt64, 0, 0, impl.ErrRange},
	} {
		if n, code := impl.LivesAt(x, c.age); n != c.lives || code != c.code {
			t.Errorf("LivesAt(%d) = %d, %d; want %d, %d", c.age, n, code, c.lives, c.code)
		}
		if n, code := impl.DeathsAt(x, c.age); n != c.deaths || code != c.code {
			t.Errorf("DeathsAt(%d) = %d, %d; want %d, %d", c.age, n, code, c.deaths, c.code)
		}
	}
}

// TestLivesAndDeathsAddUp checks promise 3: all who live at an age die at this age or a later one.
func TestLivesAndDeathsAddUp(t *testing.T) {
	for _, x := range sampleTables() {
		dead := int64(0)
		for age := int64(impl.MaxAge); age >= x.First; age-- {
			deaths, code := impl.DeathsAt(x, age)
			if want := leftAt(x, age) - leftAt(x, age+1); deaths != want || code != impl.ErrNone {
				t.Errorf("DeathsAt(%v, %d) = %d, %d; want %d", x, age, deaths, code, want)
			}
			dead += deaths
			lives, code := impl.LivesAt(x, age)
			if want := leftAt(x, age); lives != want || code != impl.ErrNone {
				t.Errorf("LivesAt(%v, %d) = %d, %d; want %d", x, age, lives, code, want)
			}
			if lives != dead {
				t.Errorf("%v: %d lives at the age %d, and %d deaths from it on", x, lives, age, dead)
			}
		}
		if dead != x.Lives[0] {
			t.Errorf("%v: %d deaths in all", x, dead)
		}
	}
}

// TestSpareLivesDoNotMatter has lives behind the end of a slice, and a part of a longer slice.
func TestSpareLivesDoNotMatter(t *testing.T) {
	back := []int64{700, 100, 90, 72, 36, 0, 33, 22, 11}
	x := impl.LifeTable{First: 60, Lives: back[1:6]}
	if n, code := impl.LivesAt(x, 65); n != 0 || code != impl.ErrNone {
		t.Errorf("LivesAt = %d, %d", n, code)
	}
	if n, d, code := impl.ExpectedYears(x, 60); n != 99 || d != 50 || code != impl.ErrNone {
		t.Errorf("ExpectedYears = %d, %d, %d", n, d, code)
	}
	if s := impl.TableText(x); s != "60 100 90 72 36 0" {
		t.Errorf("TableText = %q", s)
	}
	if impl.IsLifeTable(impl.LifeTable{First: 60, Lives: back[1:5]}) {
		t.Error("a list is read behind its end")
	}
	impl.DeathsAt(x, 61)
	impl.SurvivalOf(x, 61, 2)
	impl.MiddleAge(x, 60)
	impl.ReadTable(impl.TableText(x))
	if !slices.Equal(back, []int64{700, 100, 90, 72, 36, 0, 33, 22, 11}) {
		t.Errorf("an argument is changed: %v", back)
	}
}

func TestFractionsExamples(t *testing.T) {
	x := table(60, 100, 90, 72, 36, 0)
	for _, c := range []struct{ age, years, n, d int64 }{
		{60, 0, 1, 1},
		{60, 1, 9, 10},
		{60, 2, 18, 25},
		{60, 3, 9, 25},
		{60, 4, 0, 1},
		{60, 90, 0, 1},
		{60, 91, 0, 1},
		{60, 150, 0, 1},
		{61, 2, 2, 5},
		{62, 1, 1, 2},
		{63, 0, 1, 1},
		{63, 1, 0, 1},
		{63, 87, 0, 1},
		{63, 88, 0, 1},
		{63, 150, 0, 1},
	} {
		if n, d, code := impl.SurvivalOf(x, c.age, c.years); n != c.n || d != c.d || code != impl.ErrNone {
			t.Errorf("SurvivalOf(%d, %d) = %d / %d, %d; want %d / %d", c.age, c.years, n, d, code, c.n, c.d)
		}
	}
	for _, c := range []struct {
		x         impl.LifeTable
		age, n, d int64
	}{
		{x, 60, 99, 50},
		{x, 61, 6, 5},
		{x, 62, 1, 2},
		{x, 63, 0, 1},
		{table(0, 1, 0), 0, 0, 1},
		{table(100, impl.MaxLives, 0), 100, 0, 1},
		{table(100, 7, 7, 7, 0), 100, 2, 1},
		{impl.LifeTable{First: 31, Lives: append(fill(119, impl.MaxLives), 0)}, 31, 118, 1},
		{impl.LifeTable{First: 31, Lives: append(fill(119, impl.MaxLives), 0)}, 148, 1, 1},
		{impl.LifeTable{First: 31, Lives: append(fill(119, impl.MaxLives), 0)}, 149, 0, 1},
		{table(0, impl.MaxLives, impl.MaxLives-1, 0), 0, impl.MaxLives - 1, impl.MaxLives},
	} {
		if n, d, code := impl.ExpectedYears(c.x, c.age); n != c.n || d != c.d || code != impl.ErrNone {
			t.Errorf("ExpectedYears(%v, %d) = %d / %d, %d; want %d / %d", c.x, c.age, n, d, code, c.n, c.d)
		}
	}
}

// checkFraction compares a fraction with one that need not be in lowest terms.
func checkFraction(t *testing.T, name string, n, d, code int64, above, below int64) {
	t.Helper()
	// A big.Rat is in lowest terms, and 0 is 0 / 1.
	want := big.NewRat(above, below)
	if n != want.Num().Int64() || d != want.Denom().Int64() || code != impl.ErrNone {
		t.Errorf("%s = %d / %d, %d; want %s", name, n, d, code, want)
	}
}

func TestFractionsByHand(t *testing.T) {
	for _, x := range sampleTables() {
		for age := x.First; age < endOf(x); age++ {
			sum := int64(0)
			for later := age + 1; later < endOf(x); later++ {
				sum += leftAt(x, later)
			}
			n, d, code := impl.ExpectedYears(x, age)
			checkFraction(t, fmt.Sprintf("ExpectedYears(%v, %d)", x, age), n, d, code, sum, leftAt(x, age))
			for _, years := range []int64{0, 1, 2, 3, 7, endOf(x) - age - 1, endOf(x) - age, endOf(x) - age + 1, impl.MaxAge - age, impl.MaxAge - age + 1, impl.MaxAge} {
				if years > impl.MaxAge {
					continue
				}
				n, d, code := impl.SurvivalOf(x, age, years)
				checkFraction(t, fmt.Sprintf("SurvivalOf(%v, %d, %d)", x, age, years), n, d, code, leftAt(x, age+years), leftAt(x, age))
			}
		}
	}
}

func TestMiddleAgeExamples(t *testing.T) {
	for _, c := range []struct {
		x         impl.LifeTable
		age, want int64
	}{
		{table(60, 100, 90, 72, 36, 0), 60, 63},
		{table(60, 100, 90, 72, 36, 0), 61, 63},
		{table(60, 100, 90, 72, 36, 0), 62, 63},
		{table(60, 100, 90, 72, 36, 0), 63, 64},
		// Just half of the lives is enough, and one more is too many.
		{table(60, 100, 51, 50, 49, 0), 60, 62},
		{table(60, 100, 51, 51, 49, 0), 60, 63},
		{table(60, 100, 51, 51, 51, 0), 60, 64},
		// Half of an odd number is no whole number.
		{table(60, 7, 4, 3, 0), 60, 62},
		{table(60, 7, 4, 4, 0), 60, 63},
		{table(60, 3, 2, 1, 0), 60, 62},
		{table(60, 1, 1, 0), 60, 62},
		{table(60, 1, 1, 0), 61, 62},
		{table(0, 1, 0), 0, 1},
		{table(100, impl.MaxLives, impl.MaxLives/2, 0), 100, 101},
		{table(100, impl.MaxLives, impl.MaxLives/2+1, 0), 100, 102},
		{slowTable(100, 1, 51), 100, 150},
		{slowTable(100, 1, 51), 149, 150},
		{impl.LifeTable{First: 31, Lives: append(fill(119, 9), 0)}, 31, 150},
	} {
		if age, code := impl.MiddleAge(c.x, c.age); age != c.want || code != impl.ErrNone {
			t.Errorf("MiddleAge(%v, %d) = %d, %d; want %d", c.x, c.age, age, code, c.want)
		}
	}
}

func TestMiddleAgeByHand(t *testing.T) {
	for _, x := range sampleTables() {
		for age := x.First; age < endOf(x); age++ {
			want := x.First
			for 2*leftAt(x, want) > leftAt(x, age) {
				want++
			}
			if got, code := impl.MiddleAge(x, age); got != want || code != impl.ErrNone {
				t.Errorf("MiddleAge(%v, %d) = %d, %d; want %d", x, age, got, code, want)
			}
		}
	}
}

// checkAgeErrors checks that all functions with an age return a code for it.
func checkAgeErrors(t *testing.T, x impl.LifeTable, age, want int64) {
	t.Helper()
	if want != impl.ErrState {
		if n, code := impl.LivesAt(x, age); n != 0 || code != want {
			t.Errorf("LivesAt(%v, %d) = %d, %d; want %d", x, age, n, code, want)
		}
		if n, code := impl.DeathsAt(x, age); n != 0 || code != want {
			t.Errorf("DeathsAt(%v, %d) = %d, %d; want %d", x, age, n, code, want)
		}
	}
	for _, years := range []int64{0, 1, impl.MaxAge} {
		checkSurvivalError(t, x, age, years, want)
	}
	if n, d, code := impl.ExpectedYears(x, age); n != 0 || d != 0 || code != want {
		t.Errorf("ExpectedYears(%v, %d) = %d, %d, %d; want %d", x, age, n, d, code, want)
	}
	if n, code := impl.MiddleAge(x, age); n != 0 || code != want {
		t.Errorf("MiddleAge(%v, %d) = %d, %d; want %d", x, age, n, code, want)
	}
}

// checkSurvivalError checks that SurvivalOf returns a code and nothing else.
func checkSurvivalError(t *testing.T, x impl.LifeTable, age, years, want int64) {
	t.Helper()
	if n, d, code := impl.SurvivalOf(x, age, years); n != 0 || d != 0 || code != want {
		t.Errorf("SurvivalOf(%v, %d, %d) = %d, %d, %d; want %d", x, age, years, n, d, code, want)
	}
}

// wrongAges are ages that are not in First..MaxAge.
func wrongAges(x impl.LifeTable) []int64 {
	return []int64{x.First - 1, -1, impl.MaxAge + 1, math.MinInt64, math.MinInt64 + 1, math.MaxInt64 - 1, math.MaxInt64}
}

// wrongYears are numbers of years that are not in 0..MaxAge.
var wrongYears = []int64{-1, impl.MaxAge + 1, math.MinInt64, math.MaxInt64, math.MaxInt64 - impl.MaxAge}

func TestErrorsOfAgesOfTables(t *testing.T) {
	for _, x := range sampleTables() {
		for _, age := range wrongAges(x) {
			checkAgeErrors(t, x, age, impl.ErrRange)
			for _, years := range wrongYears {
				checkSurvivalError(t, x, age, years, impl.ErrRange)
			}
		}
		for age := endOf(x); age <= impl.MaxAge; age++ {
			checkAgeErrors(t, x, age, impl.ErrState)
		}
		for _, years := range wrongYears {
			checkSurvivalError(t, x, x.First, years, impl.ErrRange)
			// Wrong years count before an age at which no lives are left.
			checkSurvivalError(t, x, endOf(x), years, impl.ErrRange)
			checkSurvivalError(t, x, impl.MaxAge, years, impl.ErrRange)
		}
	}
}

// TestNoTableIsTheFirstError has wrong ages and years besides tables that are none, and ages at which no lives would be left.
func TestNoTableIsTheFirstError(t *testing.T) {
	for name, x := range noTables() {
		t.Run(name, func(t *testing.T) {
			for _, age := range append(wrongAges(x), x.First, 0, 60, 61, 62, 100, 149, 150) {
				checkAgeErrors(t, x, age, impl.ErrInvalid)
				for _, years := range wrongYears {
					checkSurvivalError(t, x, age, years, impl.ErrInvalid)
				}
			}
		})
	}
}

func TestMakeTableExamples(t *testing.T) {
	for _, c := range []struct {
		first, lives int64
		rates        []int64
		want         string
	}{
		{60, 100, []int64{100, 205, 500}, "60 100 90 71 35 0"},
		{60, 100, nil, "60 100 0"},
		{60, 100, []int64{}, "60 100 0"},
		{60, 100, []int64{0}, "60 100 100 0"},
		{60, 100, []int64{0, 0, 0}, "60 100 100 100 100 0"},
		// The table ends before its rates do, and just with them.
		{60, 100, []int64{1000}, "60 100 0"},
		{60, 100, []int64{1000, 1000, 500}, "60 100 0"},
		{60, 100, []int64{100, 1000, 500}, "60 100 90 0"},
		{60, 100, []int64{100, 1000, 0}, "60 100 90 0"},
		{60, 100, []int64{100, 1000}, "60 100 90 0"},
		{60, 100, []int64{1000, 0, 0, 0}, "60 100 0"},
		// Deaths are rounded up, so that the last life ends with any rate but 0.
		{60, 1, []int64{1, 1}, "60 1 0"},
		{60, 1, []int64{0, 1, 5}, "60 1 1 0"},
		{60, 2, []int64{1}, "60 2 1 0"},
		{60, 2, []int64{1, 1}, "60 2 1 0"},
		{60, 2, []int64{500}, "60 2 1 0"},
		{60, 2, []int64{501}, "60 2 0"},
		{60, 1000, []int64{1}, "60 1000 999 0"},
		{60, 1001, []int64{1}, "60 1001 999 0"},
		{60, 1000, []int64{999, 999}, "60 1000 1 0"},
		{60, impl.MaxLives, []int64{999, 1}, "60 1000000 1000 999 0"},
		{60, impl.MaxLives, []int64{1, 999, 0}, "60 1000000 999000 999 999 0"},
		{0, impl.MaxLives, []int64{1000}, "0 1000000 0"},
		{100, 1, []int64{0}, "100 1 1 0"},
	} {
		x, code := impl.MakeTable(c.first, c.lives, c.rates)
		if s := impl.TableText(x); s != c.want || code != impl.ErrNone {
			t.Errorf("MakeTable(%d, %d, %v) = %v, %d; want %s", c.first, c.lives, c.rates, x, code, c.want)
		}
	}
}

func TestMakeTableLimits(t *testing.T) {
	for first := int64(0); first <= 100; first++ {
		most := min(118, impl.MaxAge-1-first)
		x, code := impl.MakeTable(first, impl.MaxLives, fill(int(most), 0))
		want := impl.LifeTable{First: first, Lives: append(fill(int(most)+1, impl.MaxLives), 0)}
		if x.First != want.First || !slices.Equal(x.Lives, want.Lives) || code != impl.ErrNone {
			t.Errorf("MakeTable at %d with %d rates = %v, %d", first, most, x, code)
		}
		checkNoTableMade(t, first, impl.MaxLives, fill(int(most)+1, 0))
		// Too many rates are wrong even if the table would end before them.
		checkNoTableMade(t, first, impl.MaxLives, fill(int(most)+1, 1000))
	}
}

// checkNoTableMade checks that MakeTable returns ErrRange and nothing else.
func checkNoTableMade(t *testing.T, first, lives int64, rates []int64) {
	t.Helper()
	if x, code := impl.MakeTable(first, lives, rates); x.First != 0 || len(x.Lives) != 0 || code != impl.ErrRange {
		t.Errorf("MakeTable(%d, %d, %v) = %v, %d", first, lives, rates, x, code)
	}
}

func TestMakeTableErrors(t *testing.T) {
	for _, first := range []int64{-1, 101, 149, 150, 151, math.MinInt64, math.MaxInt64} {
		checkNoTableMade(t, first, 100, nil)
		checkNoTableMade(t, first, 100, []int64{100})
	}
	for _, lives := range []int64{0, -1, impl.MaxLives + 1, math.MinInt64, math.MaxInt64} {
		checkNoTableMade(t, 60, lives, nil)
		checkNoTableMade(t, 60, lives, []int64{100})
	}
	for _, rate := range []int64{-1, 1001, math.MinInt64, math.MaxInt64} {
		checkNoTableMade(t, 60, 100, []int64{rate})
		checkNoTableMade(t, 60, 100, []int64{100, rate, 100})
		checkNoTableMade(t, 60, 100, []int64{100, 100, rate})
		// A wrong rate is wrong behind the end of the table, too.
		checkNoTableMade(t, 60, 100, []int64{1000, rate})
		checkNoTableMade(t, 60, 100, []int64{1000, 0, 0, rate})
	}
	checkNoTableMade(t, 0, 100, fill(5000, 1000))
	checkNoTableMade(t, 101, 0, []int64{1001})
}

// TestMakeTableByHand makes tables by chance: in each year the deaths are the least number that is at least the rate.
func TestMakeTableByHand(t *testing.T) {
	random := rand.New(rand.NewSource(32))
	for range 3000 {
		first, lives := random.Int63n(101), 1+random.Int63n([]int64{3, 100, impl.MaxLives}[random.Intn(3)])
		top := []int64{2, 30, 300, 1001}[random.Intn(4)]
		rates := make([]int64, random.Int63n(min(119, impl.MaxAge-first)))
		for i := range rates {
			rates[i] = random.Int63n(top)
		}
		x, code := impl.MakeTable(first, lives, rates)
		if code != impl.ErrNone || !impl.IsLifeTable(x) || x.First != first || x.Lives[0] != lives {
			t.Fatalf("MakeTable(%d, %d, %v) = %v, %d", first, lives, rates, x, code)
		}
		years := len(x.Lives) - 1
		if years > len(rates)+1 {
			t.Fatalf("MakeTable(%d, %d, %v) = %v", first, lives, rates, x)
		}
		for i := range years {
			deaths, exact := x.Lives[i]-x.Lives[i+1], int64(0)
			if i < len(rates) {
				exact = x.Lives[i] * rates[i]
			} else {
				exact = x.Lives[i] * 1000
			}
			if 1000*deaths < exact || 1000*(deaths-1) >= exact {
				t.Errorf("MakeTable(%d, %d, %v) = %v: %d deaths in the year %d", first, lives, rates, x, deaths, i)
			}
		}
	}
}

func TestMakeTableMemory(t *testing.T) {
	back := []int64{100, 205, 500, 70, 71}
	first, _ := impl.MakeTable(60, 100, back[:3])
	if !slices.Equal(back, []int64{100, 205, 500, 70, 71}) {
		t.Errorf("MakeTable changed its argument: %v", back)
	}
	second, _ := impl.MakeTable(60, 100, back[:3])
	for i := range first.Lives {
		first.Lives[i] = -9
	}
	if s := impl.TableText(second); s != "60 100 90 71 35 0" || !slices.Equal(back, []int64{100, 205, 500, 70, 71}) {
		t.Errorf("a result of MakeTable shares memory: %v, %v", second, back)
	}
}

func TestTableTexts(t *testing.T) {
	for _, c := range []struct {
		x impl.LifeTable
		s string
	}{
		{table(60, 100, 90, 72, 36, 0), "60 100 90 72 36 0"},
		{table(0, 1, 0), "0 1 0"},
		{table(100, impl.MaxLives, 0), "100 1000000 0"},
		{table(9, 10, 10, 9, 0), "9 10 10 9 0"},
		{impl.LifeTable{First: 31, Lives: append(fill(119, impl.MaxLives), 0)}, "31" + strings.Repeat(" 1000000", 119) + " 0"},
	} {
		if s := impl.TableText(c.x); s != c.s {
			t.Errorf("TableText(%v) = %q; want %q", c.x, s, c.s)
		}
		if x, ok := impl.ReadTable(c.s); x.First != c.x.First || !slices.Equal(x.Lives, c.x.Lives) || !ok {
			t.Errorf("ReadTable(%q) = %v, %v", c.s, x, ok)
		}
	}
	for name, x := range noTables() {
		if s := impl.TableText(x); s != "" {
			t.Errorf("%s: TableText(%v) = %q", name, x, s)
		}
	}
}

func TestTableIsFoundFromItsText(t *testing.T) {
	for _, x := range sampleTables() {
		words := []string{fmt.Sprint(x.First)}
		for _, n := range x.Lives {
			words = append(words, fmt.Sprint(n))
		}
		want := strings.Join(words, " ")
		if s := impl.TableText(x); s != want {
			t.Errorf("TableText(%v) = %q; want %q", x, s, want)
		}
		if back, ok := impl.ReadTable(want); back.First != x.First || !slices.Equal(back.Lives, x.Lives) || !ok {
			t.Errorf("ReadTable(%q) = %v, %v", want, back, ok)
		}
	}
}

// checkNoText checks that ReadTable returns false and nothing else.
func checkNoText(t *testing.T, name string, s string) {
	t.Helper()
	if x, ok := impl.ReadTable(s); x.First != 0 || len(x.Lives) != 0 || ok {
		t.Errorf("%s: ReadTable(%q) = %v, %v", name, s, x, ok)
	}
}

func TestNoTextsOfTables(t *testing.T) {
	for _, s := range []string{
		"", " ", "  ", "-", "60", "60 ", "60 100", "60 0", "60 100 90", "60 100 101 0", "60 0 0", "60 100 0 0", "101 5 0",
		" 60 100 0", "60 100 0 ", "60  100 0", "60 100  0", "60 100 0\n", "60\n100\n0", "60\t100\t0", "60,100,0", "60, 100, 0", "60 100 0\x00", "\x0060 100 0",
		"060 100 0", "60 0100 0", "60 100 00", "00 100 0", "+60 100 0", "60 +100 0", "60 100 +0", "60 100 -0", "-0 100 0", "-60 100 0", "-1 5 0", "60 -100 0",
		"60 100.0 0", "6e1 100 0", "0x3c 100 0", "6_0 100 0", "60 1_00 0", "60 100 O", "60 100 0x", "60 100 x", "sixty 100 0", "60 100 \xff",
		"60\u00a0100\u00a00", "\u0666\u0660 100 0", "60 \uff11\uff10\uff10 0",
		"60 1000001 0", "60 9223372036854775807 0", "60 9223372036854775808 0", "60 18446744073709551716 0", "18446744073709551676 100 0",
		"60 100 18446744073709551616", "60 " + strings.Repeat("9", 5000) + " 0", "60 " + strings.Repeat("0", 5000) + "100 0",
		"[60 100 0]", "{60 [100 0]}", "60 [100 0]", "nil", "true",
	} {
		checkNoText(t, "no text", s)
	}
	checkNoText(t, "too many numbers", "0"+strings.Repeat(" 5", 120)+" 0")
	checkNoText(t, "an end over MaxAge", "100"+strings.Repeat(" 5", 51)+" 0")
	checkNoText(t, "very many numbers", "0"+strings.Repeat(" 5", 100000)+" 0")
	checkNoText(t, "very many blanks", strings.Repeat(" ", 100000))
}

// tableForm is the form of a text of a life table with at most 120 numbers, none of which is great.
var tableForm = regexp.MustCompile(`^(0|[1-9][0-9]{0,7})( (0|[1-9][0-9]{0,7})){2,120}$`)

// readTableByHand reads a text as the document describes it.
func readTableByHand(s string) (impl.LifeTable, bool) {
	if !tableForm.MatchString(s) {
		return impl.LifeTable{}, false
	}
	numbers := []int64{}
	for _, word := range strings.Fields(s) {
		n := int64(0)
		fmt.Sscan(word, &n)
		numbers = append(numbers, n)
	}
	x := impl.LifeTable{First: numbers[0], Lives: numbers[1:]}
	if !impl.IsLifeTable(x) {
		return impl.LifeTable{}, false
	}
	return x, true
}

// TestTextsNearTables changes texts of tables in one byte.
func TestTextsNearTables(t *testing.T) {
	check := func(s string) {
		t.Helper()
		want, isText := readTableByHand(s)
		if x, ok := impl.ReadTable(s); x.First != want.First || !slices.Equal(x.Lives, want.Lives) || ok != isText {
			t.Errorf("ReadTable(%q) = %v, %v; want %v, %v", s, x, ok, want, isText)
		}
	}
	for _, text := range []string{"60 100 90 72 36 0", "0 1 0", "100 1000000 7 7 0", "9 10 9 0"} {
		for i := 0; i <= len(text); i++ {
			check(text[:i])
			check(text[i:])
			for b := range 256 {
				check(text[:i] + string([]byte{byte(b)}) + text[i:])
				if i < len(text) {
					check(text[:i] + string([]byte{byte(b)}) + text[i+1:])
				}
			}
			if i < len(text) {
				check(text[:i] + text[i+1:])
			}
		}
	}
}

func TestReadTableMemory(t *testing.T) {
	first, _ := impl.ReadTable("60 100 90 0")
	second, _ := impl.ReadTable("60 100 90 0")
	for i := range first.Lives {
		first.Lives[i] = -9
	}
	if s := impl.TableText(second); s != "60 100 90 0" {
		t.Errorf("a result of ReadTable shares memory: %q", s)
	}
}
