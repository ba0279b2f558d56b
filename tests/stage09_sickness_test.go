package tests

import (
	"fmt"
	"math"
	"math/big"
	"math/rand"
	"regexp"
	"slices"
	"strings"
	"testing"

	"loop.example/g01025/impl"
)

// The limits of chapter 9, which have no names in the package.
const (
	maxSickFirst = 100
	maxSickAges  = 120
	maxWeeks     = 52000
	maxSickYears = 60
	maxBenefit   = 100000
)

// Numbers that are not in the ranges of chapter 9.
var (
	noWeeks     = []int64{-1, maxWeeks + 1, -maxWeeks, 1 << 32, 1<<32 + 7, math.MinInt64, math.MinInt64 + 1, math.MaxInt64 - 1, math.MaxInt64}
	noSickYears = []int64{0, -1, maxSickYears + 1, impl.MaxYears, impl.MaxAge, 1<<32 + 1, math.MinInt64, math.MinInt64 + 1, math.MaxInt64 - 1, math.MaxInt64}
	noBenefits  = []int64{0, -1, maxBenefit + 1, -maxBenefit, 1<<32 + 1, math.MinInt64, math.MinInt64 + 1, math.MaxInt64 - 1, math.MaxInt64}
	noAges      = []int64{-1, impl.MaxAge + 1, impl.MaxAge + 2, 219, 220, -1000, 1<<32 + 60, math.MinInt64, math.MinInt64 + 1, math.MaxInt64 - 1, math.MaxInt64}
)

// sick returns a value of the type SickTable, which need not be a sickness table.
func sick(first int64, weeks ...int64) impl.SickTable {
	return impl.SickTable{First: first, Weeks: weeks}
}

// alwaysSick returns a sickness table with the most weeks at as many ages as there may be.
func alwaysSick(first int64) impl.SickTable { return sick(first, fill(maxSickAges, maxWeeks)...) }

// randomSick returns a sickness table that is made by chance.
func randomSick(random *rand.Rand) impl.SickTable {
	weeks := make([]int64, 1+random.Intn(maxSickAges))
	top := []int64{2, 9, 3000, maxWeeks + 1}[random.Intn(4)]
	for i := range weeks {
		weeks[i] = random.Int63n(top)
	}
	return sick(random.Int63n(maxSickFirst+1), weeks...)
}

// sampleSicks are sickness tables at the limits and between them.
func sampleSicks() []impl.SickTable {
	list := []impl.SickTable{
		sick(60, 2000, 3000, 4500, 7000, 9000),
		sick(62, 1000, 2000),
		sick(0, 0),
		sick(0, maxWeeks),
		sick(100, 0),
		sick(100, maxWeeks),
		sick(100, 1, 2, 3),
		sick(61, 0, 5, 0, 5, 0),
		alwaysSick(0),
		alwaysSick(31),
		alwaysSick(100),
		sick(100, fill(51, maxWeeks)...),
		sick(0, fill(maxSickAges, 0)...),
		sick(30, fill(maxSickAges, 1)...),
	}
	random := rand.New(rand.NewSource(91))
	for range 40 {
		list = append(list, randomSick(random))
	}
	return list
}

// noSicks are values that are no sickness tables.
func noSicks() map[string]impl.SickTable {
	return map[string]impl.SickTable{
		"zero value":          {},
		"no weeks":            sick(60),
		"empty weeks":         {First: 60, Weeks: []int64{}},
		"no weeks, with room": {First: 60, Weeks: []int64{5, 6}[:0]},
		"121 weeks":           sick(0, fill(maxSickAges+1, 5)...),
		"very many weeks":     sick(0, fill(5000, 5)...),
		"First below 0":       sick(-1, 5, 6),
		"First over 100":      sick(101, 5, 6),
		"least First":         sick(math.MinInt64, 5, 6),
		"greatest First":      sick(math.MaxInt64, 5, 6),
		"negative First":      sick(-60, 5, 6),
		"-1 only":             sick(60, -1),
		"-1 first":            sick(60, -1, 5, 6),
		"-1 between":          sick(60, 5, -1, 6),
		"-1 last":             sick(60, 5, 6, -1),
		"52001 only":          sick(60, maxWeeks+1),
		"52001 first":         sick(60, maxWeeks+1, 5, 6),
		"52001 between":       sick(60, 5, maxWeeks+1, 6),
		"52001 last":          sick(60, 5, 6, maxWeeks+1),
		"least weeks":         sick(60, 5, math.MinInt64),
		"greatest weeks":      sick(60, 5, math.MaxInt64),
		"many weeks, one -1":  sick(0, append(fill(maxSickAges-1, 5), -1)...),
		"all wrong":           sick(-7, -1, maxWeeks+1),
	}
}

// weeksOf looks the weeks at an age up in a sickness table.
func weeksOf(s impl.SickTable, age int64) int64 {
	for i, weeks := range s.Weeks {
		if s.First+int64(i) == age {
			return weeks
		}
	}
	return 0
}

func sameSick(a, b impl.SickTable) bool { return a.First == b.First && slices.Equal(a.Weeks, b.Weeks) }

func TestIsSickTable(t *testing.T) {
	for _, s := range sampleSicks() {
		if !impl.IsSickTable(s) {
			t.Errorf("IsSickTable(%v) is false", s)
		}
	}
	for name, s := range noSicks() {
		if impl.IsSickTable(s) {
			t.Errorf("%s: IsSickTable(%v) is true", name, s)
		}
	}
}

// TestSizesOfSickTables tries all lengths at all first ages; the last age does not matter.
func TestSizesOfSickTables(t *testing.T) {
	for first := int64(-2); first <= 103; first++ {
		for n := range 125 {
			want := first >= 0 && first <= 100 && n >= 1 && n <= 120
			if got := impl.IsSickTable(sick(first, fill(n, 7)...)); got != want {
				t.Errorf("IsSickTable is %v for %d weeks from the age %d on", got, n, first)
			}
		}
	}
}

// TestWeeksOfSickTables has one number of weeks at its limits and one beyond, at all places of a table.
func TestWeeksOfSickTables(t *testing.T) {
	for _, n := range []int{1, 2, 3, maxSickAges} {
		for i := range n {
			s := sick(60, fill(n, 7)...)
			for _, weeks := range []int64{0, 1, maxWeeks - 1, maxWeeks} {
				s.Weeks[i] = weeks
				if !impl.IsSickTable(s) {
					t.Errorf("IsSickTable is false for %v", s)
				}
			}
			for _, weeks := range noWeeks {
				s.Weeks[i] = weeks
				if impl.IsSickTable(s) {
					t.Errorf("IsSickTable is true for %v", s)
				}
			}
		}
	}
}

func TestWeeksAtExamples(t *testing.T) {
	for _, c := range []struct {
		s         impl.SickTable
		age, want int64
	}{
		{sick(60, 2000, 3000, 4500), 60, 2000},
		{sick(60, 2000, 3000, 4500), 61, 3000},
		{sick(60, 2000, 3000, 4500), 62, 4500},
		// Before First, and behind the last age that Weeks tells.
		{sick(60, 2000, 3000, 4500), 59, 0},
		{sick(60, 2000, 3000, 4500), 63, 0},
		{sick(60, 2000, 3000, 4500), 0, 0},
		{sick(60, 2000, 3000, 4500), impl.MaxAge, 0},
		{sick(0, 7), 0, 7},
		{sick(0, 7), 1, 0},
		{sick(100, 7), 99, 0},
		{sick(100, 7), 100, 7},
		{sick(100, 7), 101, 0},
		{sick(60, 0, maxWeeks, 0), 61, maxWeeks},
		{sick(60, 0, maxWeeks, 0), 62, 0},
		{alwaysSick(0), 119, maxWeeks},
		{alwaysSick(0), 120, 0},
		{alwaysSick(31), 30, 0},
		{alwaysSick(31), impl.MaxAge, maxWeeks},
		{alwaysSick(30), 149, maxWeeks},
		{alwaysSick(30), impl.MaxAge, 0},
		{alwaysSick(100), impl.MaxAge, maxWeeks},
	} {
		if weeks, code := impl.WeeksAt(c.s, c.age); weeks != c.want || code != impl.ErrNone {
			t.Errorf("WeeksAt(%v, %d) = %d, %d; want %d", c.s, c.age, weeks, code, c.want)
		}
	}
}

func TestWeeksAtAllAges(t *testing.T) {
	for _, s := range sampleSicks() {
		for age := range int64(impl.MaxAge + 1) {
			if weeks, code := impl.WeeksAt(s, age); weeks != weeksOf(s, age) || code != impl.ErrNone {
				t.Errorf("WeeksAt(%v, %d) = %d, %d; want %d", s, age, weeks, code, weeksOf(s, age))
			}
		}
		for _, age := range noAges {
			if weeks, code := impl.WeeksAt(s, age); weeks != 0 || code != impl.ErrRange {
				t.Errorf("WeeksAt(%v, %d) = %d, %d", s, age, weeks, code)
			}
		}
	}
}

// sicknesses are the functions that price a benefit.
var sicknesses = []struct {
	name  string
	price func(x impl.LifeTable, s impl.SickTable, rate, age, n, benefit int64) (int64, int64)
}{
	{"SickValue", impl.SickValue},
	{"SickPremium", impl.SickPremium},
}

func TestSicknessExamples(t *testing.T) {
	x := table(60, 100, 90, 72, 36, 0)
	s := sick(60, 2000, 3000, 4500, 7000, 9000)
	late, early := sick(62, 1000, 2000), sick(55, 900, 800, 700, 600, 500, 400, 300)
	ends, gap, few := sick(60, 5000, 0, 0, 5000), sick(61, 0, 1000, 0, 1000, 0), sick(60, 1, 1, 1, 1, 1)
	for _, c := range []struct {
		x                     impl.LifeTable
		s                     impl.SickTable
		rate, age, n, benefit int64
		value, premium        int64
	}{
		{x, s, 40, 60, 1, 500, 1000, 1000},
		{x, s, 40, 60, 2, 500, 2299, 1233},
		{x, s, 40, 60, 3, 500, 3797, 1501},
		// As many years as there are lives for, and more.
		{x, s, 40, 60, 4, 500, 4918, 1725},
		{x, s, 40, 60, 5, 500, 4918, 1725},
		{x, s, 40, 60, maxSickYears, 500, 4918, 1725},
		// Later ages, up to the last one at which lives are left.
		{x, s, 40, 61, 1, 500, 1500, 1500},
		{x, s, 40, 61, 2, 500, 3231, 1827},
		{x, s, 40, 61, 3, 500, 4526, 2116},
		{x, s, 40, 62, maxSickYears, 500, 3933, 2657},
		{x, s, 40, 63, 1, 500, 3500, 3500},
		{x, s, 40, 63, maxSickYears, 500, 3500, 3500},
		// The least and the greatest benefit.
		{x, s, 40, 60, 1, 1, 2, 2},
		{x, s, 40, 60, 4, 1, 11, 4},
		{x, s, 40, 60, 4, maxBenefit - 1, 983190, 344846},
		{x, s, 40, 60, 4, maxBenefit, 983201, 344850},
		{x, s, 40, 63, 1, maxBenefit, 700000, 700000},
		// Ages before First, and behind the last one of the sickness table.
		{x, late, 40, 60, 1, 500, 0, 0},
		{x, late, 40, 60, 2, 500, 0, 0},
		{x, late, 40, 60, 3, 500, 333, 132},
		{x, late, 40, 60, 4, 500, 654, 230},
		{x, late, 40, 60, 5, 500, 654, 230},
		{x, late, 40, 62, 1, 500, 500, 500},
		{x, early, 40, 60, 1, 500, 200, 200},
		{x, early, 40, 60, 2, 500, 330, 177},
		{x, early, 40, 60, 3, 500, 330, 131},
		{x, early, 40, 62, 2, 500, 0, 0},
		// No weeks at some ages, and at all of them.
		{x, ends, 40, 60, 1, 500, 2500, 2500},
		{x, ends, 40, 60, 3, 500, 2500, 988},
		{x, ends, 40, 60, 4, 500, 3301, 1158},
		{x, gap, 40, 60, 4, 500, 333, 117},
		{x, sick(60, 0), 40, 60, 4, maxBenefit, 0, 0},
		// Numbers that come out even, some of them, and none but the first.
		{x, s, 0, 60, 1, 1, 2, 2},
		{x, s, 0, 60, 2, 10, 47, 25},
		{x, s, 0, 60, 2, 1, 5, 3},
		{x, s, 0, 60, 3, 100, 794, 304},
		{x, s, 0, 60, 3, 25, 199, 76},
		{x, s, 0, 60, 4, 50, 523, 176},
		{x, s, 0, 60, 4, 25, 262, 88},
		{x, s, 0, 60, 4, 7, 74, 25},
		// Each number is rounded up by itself.
		{x, few, 0, 60, 1, 1, 1, 1},
		{x, few, 0, 60, 2, 1, 2, 2},
		{x, few, 0, 60, 3, 1, 3, 2},
		{x, few, 0, 60, 4, 1, 4, 2},
		{x, few, 0, 60, 5, 1, 4, 2},
		{x, few, 0, 60, 4, 1000, 4, 2},
		{x, few, 0, 60, 4, 1001, 5, 2},
		{x, few, 40, 60, 4, 1000, 4, 2},
		// Premiums that come out even, and that are rounded up by little and by much.
		{x, s, 0, 60, 2, 4, 19, 10},
		{x, s, 0, 60, 2, 3, 15, 8},
		{x, s, 0, 60, 2, 5, 24, 13},
		{x, s, 0, 60, 2, 190, 893, 470},
		{x, s, 0, 60, 2, 189, 889, 468},
		{x, s, 0, 60, 2, 191, 898, 473},
		{x, s, 0, 61, 2, 9, 60, 34},
		// The rates at the limits.
		{x, s, 0, 60, maxSickYears, maxBenefit, 1046000, 351007},
		{x, s, impl.MaxRate, 60, 4, 500, 3980, 1619},
		{x, s, impl.MaxRate, 60, 2, 6, 26, 15},
		{x, s, impl.MaxRate, 62, maxSickYears, maxBenefit, 741667, 523530},
		{longTable, alwaysSick(31), 1, 31, maxSickYears, maxBenefit, 302980309, 5200001},
		// Lives of one year, and the first age 0.
		{table(0, 1, 0), alwaysSick(0), 0, 0, 1, 1, 52, 52},
		{table(0, 1, 0), alwaysSick(0), impl.MaxRate, 0, maxSickYears, maxBenefit, 5200000, 5200000},
		{table(0, 1, 0), sick(0, maxWeeks), 40, 0, maxSickYears, 7, 364, 364},
		{table(0, impl.MaxLives, 0), alwaysSick(0), 40, 0, maxSickYears, maxBenefit, 5200000, 5200000},
		// Many years of lives.
		{slowLives, alwaysSick(0), 40, 0, maxSickYears, maxBenefit, 34477231, 5200005},
		{slowLives, alwaysSick(0), 0, 60, maxSickYears, maxBenefit, 306800000, 5200000},
		{slowLives, alwaysSick(0), 40, 117, 2, 777, 79254, 40405},
		{slowLives, alwaysSick(0), 40, 118, 32, 777, 40404, 40404},
		// The greatest values; a benefit times the weeks times D is a product that no int64 holds.
		{longTable, alwaysSick(31), 0, 31, maxSickYears, maxBenefit, 312000000, 5200000},
		{longTable, alwaysSick(31), 0, 31, 59, maxBenefit, 306800000, 5200000},
		{longTable, alwaysSick(31), 0, 31, 1, maxBenefit, 5200000, 5200000},
		{longTable, alwaysSick(31), 35, 31, maxSickYears, maxBenefit - 1, 134251247, 5199950},
		// The age 150 at the end of the years.
		{longTable, alwaysSick(31), 0, 90, maxSickYears, maxBenefit, 312000000, 5200000},
		{longTable, alwaysSick(31), 35, 91, 59, maxBenefit, 133569407, 5200002},
		{longTable, alwaysSick(31), 0, 149, 1, maxBenefit, 5200000, 5200000},
		{x, s, 40, 61, maxSickYears, 1, 10, 5},
		// Sickness tables that begin or end between the ages.
		{longTable, alwaysSick(100), 35, 60, 40, maxBenefit, 0, 0},
		{longTable, alwaysSick(100), 35, 60, 41, maxBenefit, 1313377, 58751},
		{longTable, alwaysSick(100), 35, 60, maxSickYears, maxBenefit, 19319567, 748305},
		{longTable, alwaysSick(0), 35, 60, 59, maxBenefit, 133569421, 5200002},
		{longTable, alwaysSick(0), 35, 60, maxSickYears, maxBenefit, 134252582, 5200002},
		{longTable, alwaysSick(0), 35, 61, maxSickYears, maxBenefit, 133569421, 5173541},
		{longTable, alwaysSick(0), 35, 119, 1, maxBenefit, 5200000, 5200000},
		{longTable, alwaysSick(0), 35, 119, 31, maxBenefit, 5200000, 268152},
		{longTable, alwaysSick(0), 35, 120, 30, maxBenefit, 0, 0},
		// The first age 100, and a table that ends at MaxAge.
		{table(100, 7, 7, 7, 0), alwaysSick(100), 35, 100, 3, 1000, 150785, 52001},
		{table(100, 7, 7, 7, 0), alwaysSick(100), 35, 102, 48, 1000, 52000, 52000},
		{lateTable, alwaysSick(100), impl.MaxRate, 100, 50, maxBenefit, 31196597, 5200005},
		{lateTable, alwaysSick(100), 0, 100, 50, 1, 2600, 52},
		{lateTable, alwaysSick(100), impl.MaxRate, 149, 1, maxBenefit, 5200000, 5200000},
		// The least discounts, and years in which the discount is 0.
		{longTable, alwaysSick(31), impl.MaxRate, 31, maxSickYears, 1, 356, 60},
		{longTable, alwaysSick(31), impl.MaxRate, 31, maxSickYears, maxBenefit, 31199476, 5200006},
		{longTable, alwaysSick(31), impl.MaxRate, 90, maxSickYears, 1, 345, 58},
		{longTable, alwaysSick(31), impl.MaxRate, 90, maxSickYears, maxBenefit, 31172185, 5200004},
		{longTable, alwaysSick(31), impl.MaxRate, 137, 1, maxBenefit, 5200000, 5200000},
		{longTable, alwaysSick(31), impl.MaxRate, 137, 2, maxBenefit, 7800000, 5200000},
		{longTable, alwaysSick(31), impl.MaxRate, 137, 3, maxBenefit, 7800000, 5200000},
		{longTable, alwaysSick(31), impl.MaxRate, 137, 13, maxBenefit, 7800000, 5200000},
		{longTable, alwaysSick(31), impl.MaxRate, 138, 1, 1, 52, 52},
		{longTable, alwaysSick(31), impl.MaxRate, 138, 12, 1, 52, 52},
	} {
		for i, want := range []int64{c.value, c.premium} {
			f := sicknesses[i]
			if price, code := f.price(c.x, c.s, c.rate, c.age, c.n, c.benefit); price != want || code != impl.ErrNone {
				t.Errorf("%s(%v, %v, %d, %d, %d, %d) = %d, %d; want %d", f.name, c.x, c.s, c.rate, c.age, c.n, c.benefit, price, code, want)
			}
		}
	}
}

// yearsOfSickness are numbers n that an age allows: about the least and the greatest ones, and about the end of a table.
func yearsOfSickness(x impl.LifeTable, age int64) []int64 {
	list := append(numbersOfYears(x, age), maxSickYears-1, maxSickYears)
	list = slices.DeleteFunc(list, func(n int64) bool { return n < 1 || n > maxSickYears || age+n > impl.MaxAge })
	slices.Sort(list)
	return slices.Compact(list)
}

// valueByHand returns the value of a benefit, and what it would be if only the sum were rounded up; columns are those of x.
func valueByHand(x impl.LifeTable, s impl.SickTable, age, n, benefit int64, columns []impl.Columns) (*big.Int, *big.Int) {
	below := product(1000, columns[age-x.First].D)
	up := func(above *big.Int) *big.Int {
		// The division of big numbers goes towards the next smaller one for a divisor that is greater than 0.
		quotient := new(big.Int).Div(new(big.Int).Neg(above), below)
		return quotient.Neg(quotient)
	}
	each, all := new(big.Int), new(big.Int)
	for now := age; now < age+n; now++ {
		above := product(benefit*weeksOf(s, now), columns[now-x.First].D)
		each.Add(each, up(above))
		all.Add(all, above)
	}
	return each, up(all)
}

// checkSickness compares the value and the premium of a benefit with those found by hand, and reports whether it matters
// that each number is rounded up by itself.
func checkSickness(t *testing.T, x impl.LifeTable, s impl.SickTable, rate, age, n, benefit int64, columns []impl.Columns) bool {
	t.Helper()
	arguments := []any{x, s, rate, age, n, benefit}
	want, roundedOnce := valueByHand(x, s, age, n, benefit, columns)
	value, code := impl.SickValue(x, s, rate, age, n, benefit)
	if big.NewInt(value).Cmp(want) != 0 || code != impl.ErrNone {
		t.Errorf("SickValue%v = %d, %d; want %s", arguments, value, code, want)
	}
	now, later := columns[age-x.First], columns[age+n-x.First]
	premium, code := impl.SickPremium(x, s, rate, age, n, benefit)
	if !isUp(premium, want.Mul(want, big.NewInt(now.D)), big.NewInt(now.N-later.N)) || code != impl.ErrNone {
		t.Errorf("SickPremium%v = %d, %d; the value is %d, D %d, N %d and %d", arguments, premium, code, value, now.D, now.N, later.N)
	}
	return big.NewInt(value).Cmp(roundedOnce) != 0
}

func TestSicknessByHand(t *testing.T) {
	random := rand.New(rand.NewSource(92))
	sicks := sampleSicks()
	found := map[bool]int{}
	for i, x := range sampleTables() {
		for _, rate := range []int64{0, 1, 40, 1 + random.Int63n(impl.MaxRate), impl.MaxRate} {
			columns := columnsByHand(x, discountsByHand(rate))
			for age := x.First; age < endOf(x); age += 1 + random.Int63n(4) {
				for _, s := range []impl.SickTable{sicks[random.Intn(len(sicks))], sicks[i%len(sicks)], alwaysSick(age % 101)} {
					n := yearsOfSickness(x, age)[random.Intn(len(yearsOfSickness(x, age)))]
					benefit := []int64{1, 1 + random.Int63n(1000), 1 + random.Int63n(maxBenefit), maxBenefit}[random.Intn(4)]
					if columns[age-x.First].D == 0 {
						checkNoSickness(t, x, s, rate, age, n, benefit, impl.ErrState)
					} else {
						found[checkSickness(t, x, s, rate, age, n, benefit, columns)]++
					}
				}
			}
		}
	}
	if found[true] == 0 || found[false] == 0 {
		t.Errorf("whether the rounding matters: %v", found)
	}
}

// TestSicknessAtAllRates has the ages about which the discounts come to 0.
func TestSicknessAtAllRates(t *testing.T) {
	s := alwaysSick(31)
	for rate := range int64(impl.MaxRate + 1) {
		columns := columnsByHand(longTable, discountsByHand(rate))
		for age := int64(136); age < 150; age++ {
			for n := int64(1); n <= 150-age; n++ {
				if columns[age-31].D == 0 {
					checkNoSickness(t, longTable, s, rate, age, n, 99, impl.ErrState)
				} else {
					checkSickness(t, longTable, s, rate, age, n, 99, columns)
				}
			}
		}
	}
}

// TestLongerTimesCostNoLess checks promise 9: a longer time of sickness benefits never costs less. It goes through all
// numbers of years; what one more of them costs is found by hand.
func TestLongerTimesCostNoLess(t *testing.T) {
	sicks := sampleSicks()
	found := map[bool]int{}
	byChance(93, maxBenefit, func(random *rand.Rand, x impl.LifeTable, rate, age, benefit int64) {
		s := sicks[random.Intn(len(sicks))]
		if random.Intn(2) == 0 {
			s = alwaysSick(age % 101)
		}
		if at, _ := impl.ColumnsAt(x, rate, age); at.D == 0 {
			return
		}
		before := int64(0)
		for n := int64(1); n <= min(maxSickYears, impl.MaxAge-age); n++ {
			value, code := impl.SickValue(x, s, rate, age, n, benefit)
			if value < before || code != impl.ErrNone {
				t.Errorf("SickValue(%v, %v, %d, %d, %d, %d) = %d, %d; for one year less it is %d", x, s, rate, age, n, benefit, value, code, before)
			}
			// Somebody who is sick while lives and discounts are left always costs something.
			last, _ := impl.ColumnsAt(x, rate, age+n-1)
			costs := weeksOf(s, age+n-1) > 0 && last.D > 0
			if costs != (value > before) {
				t.Errorf("SickValue(%v, %v, %d, %d, %d, %d) = %d; for one year less it is %d", x, s, rate, age, n, benefit, value, before)
			}
			found[costs]++
			before = value
		}
	})
	if found[true] == 0 || found[false] == 0 {
		t.Errorf("whether one more year costs something: %v", found)
	}
}

// TestFirstYearsOfSickness has times of one year, in which the premium is the value, and no life table and no rate counts.
func TestFirstYearsOfSickness(t *testing.T) {
	byChance(94, maxBenefit, func(random *rand.Rand, x impl.LifeTable, rate, age, benefit int64) {
		if at, _ := impl.ColumnsAt(x, rate, age); at.D == 0 {
			return
		}
		s := sick(age%101, random.Int63n(maxWeeks+1))
		for _, f := range sicknesses {
			price, code := f.price(x, s, rate, age, 1, benefit)
			if !isUp(price, product(benefit, weeksOf(s, age)), big.NewInt(1000)) || code != impl.ErrNone {
				t.Errorf("%s(%v, %v, %d, %d, 1, %d) = %d, %d", f.name, x, s, rate, age, benefit, price, code)
			}
		}
	})
}

func TestSickWeeksExamples(t *testing.T) {
	s := sick(60, 2000, 3000)
	small := sick(60, 1, 999, 1000, 1001)
	for _, c := range []struct {
		s    impl.SickTable
		ages []int64
		want int64
	}{
		{s, []int64{60, 61, 61, 70}, 8},
		{s, nil, 0},
		{s, []int64{}, 0},
		{s, []int64{60}, 2},
		{s, []int64{61}, 3},
		{s, []int64{61, 60}, 5},
		// Ages before First, behind the last one, and at the limits.
		{s, []int64{59}, 0},
		{s, []int64{62}, 0},
		{s, []int64{0, impl.MaxAge}, 0},
		{s, []int64{59, 60, 62}, 2},
		{sick(0, 7000), []int64{0}, 7},
		{sick(100, 7000), []int64{100, 100}, 14},
		{alwaysSick(100), []int64{99, 100, impl.MaxAge}, 104},
		{alwaysSick(0), []int64{119, 120}, 52},
		// Sums that come out even, and that are rounded up by little and by much.
		{small, []int64{60}, 1},
		{small, []int64{61}, 1},
		{small, []int64{62}, 1},
		{small, []int64{63}, 2},
		{small, []int64{60, 61}, 1},
		{small, []int64{60, 60, 61}, 2},
		{small, []int64{61, 63}, 2},
		{small, []int64{60, 61, 62}, 2},
		{small, []int64{60, 62}, 2},
		{small, []int64{60, 60, 60, 60}, 1},
		{small, []int64{64, 64}, 0},
		// As many ages as there may be.
		{s, fill(impl.MaxList, 60), 260},
		{s, fill(impl.MaxList, 61), 390},
		{s, fill(impl.MaxList, 0), 0},
		{small, fill(impl.MaxList, 60), 1},
		{small, fill(impl.MaxList, 61), 130},
		{small, fill(impl.MaxList, 63), 131},
		{small, append(fill(impl.MaxList-1, 0), 60), 1},
		{alwaysSick(100), fill(impl.MaxList, impl.MaxAge), 6760},
		{alwaysSick(0), fill(impl.MaxList, 0), 6760},
		{sick(0, fill(maxSickAges, 0)...), fill(impl.MaxList, 50), 0},
	} {
		if weeks, code := impl.SickWeeks(c.s, c.ages); weeks != c.want || code != impl.ErrNone {
			t.Errorf("SickWeeks(%v, %v) = %d, %d; want %d", c.s, c.ages, weeks, code, c.want)
		}
	}
}

func TestSickWeeksByHand(t *testing.T) {
	random := rand.New(rand.NewSource(95))
	for _, s := range sampleSicks() {
		for range 100 {
			ages, sum := make([]int64, random.Intn(impl.MaxList+1)), int64(0)
			for i := range ages {
				ages[i] = random.Int63n(impl.MaxAge + 1)
				sum += weeksOf(s, ages[i])
			}
			if weeks, code := impl.SickWeeks(s, ages); !isUp(weeks, big.NewInt(sum), big.NewInt(1000)) || code != impl.ErrNone {
				t.Errorf("SickWeeks(%v, %v) = %d, %d; the sum is %d", s, ages, weeks, code, sum)
			}
		}
	}
}

// checkNoSickWeeks checks that SickWeeks returns a code and nothing else.
func checkNoSickWeeks(t *testing.T, s impl.SickTable, ages []int64, want int64) {
	t.Helper()
	if weeks, code := impl.SickWeeks(s, ages); weeks != 0 || code != want {
		t.Errorf("SickWeeks(%v, %v) = %d, %d; want %d", s, ages, weeks, code, want)
	}
}

func TestSickWeeksErrors(t *testing.T) {
	for _, s := range sampleSicks() {
		for _, n := range []int{impl.MaxList + 1, impl.MaxList + 2, 1000} {
			checkNoSickWeeks(t, s, fill(n, 60), impl.ErrRange)
			checkNoSickWeeks(t, s, fill(n, impl.MaxAge+1), impl.ErrRange)
		}
		for _, wrong := range noAges {
			checkNoSickWeeks(t, s, []int64{wrong}, impl.ErrRange)
			checkNoSickWeeks(t, s, []int64{wrong, 60, 61}, impl.ErrRange)
			checkNoSickWeeks(t, s, []int64{60, wrong, 61}, impl.ErrRange)
			checkNoSickWeeks(t, s, []int64{60, 61, wrong}, impl.ErrRange)
			checkNoSickWeeks(t, s, append(fill(impl.MaxList-1, 60), wrong), impl.ErrRange)
		}
	}
}

func TestWorstAgeExamples(t *testing.T) {
	for _, c := range []struct {
		s    impl.SickTable
		want int64
	}{
		{sick(60, 2000, 3000), 61},
		{sick(60, 3000, 2000), 60},
		{sick(60, 2000, 3000, 1000), 61},
		// The most weeks at two ages, at the first and at the last one, and at all of them.
		{sick(60, 1, 7, 5, 7, 2), 61},
		{sick(60, 7, 1, 1, 7), 60},
		{sick(60, 7, 7), 60},
		{sick(60, 1, 1, 1, 7), 63},
		{sick(60, 1, 1, 7, 7), 62},
		{sick(60, 7, 1, 1, 1), 60},
		{sick(60, 6, 7, 8, 9), 63},
		{sick(60, 9, 8, 7, 6), 60},
		{alwaysSick(0), 0},
		// No weeks at all: the first age that Weeks tells.
		{sick(60, 0), 60},
		{sick(60, 0, 0, 0), 60},
		{sick(100, fill(maxSickAges, 0)...), 100},
		{sick(60, 0, 0, 1), 62},
		{sick(0, 5), 0},
		{sick(0, append(fill(maxSickAges-1, 51999), maxWeeks)...), 119},
		{sick(30, append(fill(maxSickAges-1, 5), 6)...), 149},
		{sick(31, append(fill(maxSickAges-1, 5), 6)...), 150},
		// Weeks may tell ages past MaxAge.
		{sick(32, append(fill(maxSickAges-1, 5), 6)...), 151},
		{sick(100, append(fill(maxSickAges-1, 0), 1)...), 219},
		{sick(100, append(fill(50, 5), 6, 7, 7)...), 151},
		{sick(100, append(fill(50, 5), 7, 6, 7)...), 150},
	} {
		if age, code := impl.WorstAge(c.s); age != c.want || code != impl.ErrNone {
			t.Errorf("WorstAge(%v) = %d, %d; want %d", c.s, age, code, c.want)
		}
	}
}

func TestWorstAgesByHand(t *testing.T) {
	for _, s := range sampleSicks() {
		worst, code := impl.WorstAge(s)
		if worst < s.First || worst >= s.First+int64(len(s.Weeks)) || code != impl.ErrNone {
			t.Errorf("WorstAge(%v) = %d, %d", s, worst, code)
			continue
		}
		for i, weeks := range s.Weeks {
			if most := weeksOf(s, worst); weeks > most || weeks == most && s.First+int64(i) < worst {
				t.Errorf("WorstAge(%v) = %d, but at the age %d there are %d weeks", s, worst, s.First+int64(i), weeks)
			}
		}
	}
}

func TestSickTexts(t *testing.T) {
	for _, c := range []struct {
		s    impl.SickTable
		text string
	}{
		{sick(60, 2000, 3000), "60 2000 3000"},
		{sick(3, 7, 8), "3 7 8"},
		{sick(0, 0), "0 0"},
		{sick(100, maxWeeks), "100 52000"},
		{sick(9, 10, 9, 0, 10), "9 10 9 0 10"},
		{alwaysSick(100), "100" + strings.Repeat(" 52000", maxSickAges)},
		{sick(0, fill(maxSickAges, 0)...), "0" + strings.Repeat(" 0", maxSickAges)},
	} {
		if text := impl.SickText(c.s); text != c.text {
			t.Errorf("SickText(%v) = %q; want %q", c.s, text, c.text)
		}
		if s, ok := impl.ReadSick(c.text); !sameSick(s, c.s) || !ok {
			t.Errorf("ReadSick(%q) = %v, %v", c.text, s, ok)
		}
	}
}

// TestSickTableIsFoundFromItsText checks the second part of the chapter's guarantee.
func TestSickTableIsFoundFromItsText(t *testing.T) {
	for _, s := range sampleSicks() {
		words := []string{fmt.Sprint(s.First)}
		for _, weeks := range s.Weeks {
			words = append(words, fmt.Sprint(weeks))
		}
		want := strings.Join(words, " ")
		if text := impl.SickText(s); text != want {
			t.Errorf("SickText(%v) = %q; want %q", s, text, want)
		}
		if back, ok := impl.ReadSick(want); !sameSick(back, s) || !ok {
			t.Errorf("ReadSick(%q) = %v, %v", want, back, ok)
		}
	}
}

// checkNoSickText checks that ReadSick returns false and nothing else.
func checkNoSickText(t *testing.T, text string) {
	t.Helper()
	if s, ok := impl.ReadSick(text); s.First != 0 || len(s.Weeks) != 0 || ok {
		t.Errorf("ReadSick(%.200q) = %v, %v", text, s, ok)
	}
}

func TestNoTextsOfSickTables(t *testing.T) {
	for _, text := range []string{
		// No numbers, or too few.
		"", " ", "  ", "-", "x", "0", "60", "60 ", " 60", "nil", "true", "{60 [5]}", "60 [5]", "sixty 5", "60 five",
		// Numbers that are not in their ranges.
		"101 5", "-1 5", "60 52001", "60 -1", "60 5 52001", "60 5 -1", "60 52001 5", "60 -1 5", "-60 5", "1000 5",
		// Blanks at other places, or other ones.
		" 60 5", "60 5 ", "60  5", "60 5  6", "60 5\n", "60\n5", "60\t5", "60 5\r", "60,5", "60, 5", "60;5", "60 5\x00", "\x0060 5", "60\u00a05", "60\u20035", "60\v5",
		// Signs and leading zeros.
		"+60 5", "60 +5", "60 -0", "-0 5", "60 05", "060 5", "00 5", "60 00", "60 5 +6", "60 5 06",
		// Other ways to write numbers.
		"60 5.0", "60 5.", "6e1 5", "60 1e3", "0x3c 5", "60 0x5", "60 1_000", "60 5x", "60 5 x", "60 O", "60 \xff", "\u0666\u0660 5", "60 \uff15",
		// Numbers past int64, of which some would be in their ranges if they went round.
		"60 9223372036854775807", "60 9223372036854775808", "60 -9223372036854775808", "60 18446744073709551616", "60 18446744073709551621", "18446744073709551676 5",
		"9223372036854775807 5", "9223372036854775808 5", "60 " + strings.Repeat("9", 5000), "60 " + strings.Repeat("0", 5000) + "5",
	} {
		checkNoSickText(t, text)
	}
	checkNoSickText(t, "0"+strings.Repeat(" 5", maxSickAges+1))
	checkNoSickText(t, "0"+strings.Repeat(" 5", 100000))
	checkNoSickText(t, strings.Repeat(" ", 100000))
	for name, s := range noSicks() {
		if text := impl.SickText(s); text != "" {
			t.Errorf("%s: SickText(%v) = %q", name, s, text)
		}
		text := fmt.Sprint(s.First)
		for _, weeks := range s.Weeks {
			text += fmt.Sprint(" ", weeks)
		}
		checkNoSickText(t, text)
	}
}

// sickForm is the form of a text of a sickness table, but for the ranges of its numbers.
var sickForm = regexp.MustCompile(`^(0|[1-9][0-9]{0,7})( (0|[1-9][0-9]{0,7})){1,120}$`)

// readSickByHand reads a text as the document describes it.
func readSickByHand(text string) (impl.SickTable, bool) {
	if !sickForm.MatchString(text) {
		return impl.SickTable{}, false
	}
	numbers := []int64{}
	for _, word := range strings.Fields(text) {
		n := int64(0)
		fmt.Sscan(word, &n)
		numbers = append(numbers, n)
	}
	if numbers[0] > maxSickFirst || slices.Max(numbers[1:]) > maxWeeks {
		return impl.SickTable{}, false
	}
	return sick(numbers[0], numbers[1:]...), true
}

// TestTextsNearSickTables changes texts of sickness tables in one byte.
func TestTextsNearSickTables(t *testing.T) {
	check := func(text string) {
		t.Helper()
		want, isText := readSickByHand(text)
		if s, ok := impl.ReadSick(text); !sameSick(s, want) || ok != isText {
			t.Errorf("ReadSick(%q) = %v, %v; want %v, %v", text, s, ok, want, isText)
		}
	}
	for _, text := range []string{"60 2000 3000", "0 0", "100 52000 7 0", "9 51999 10"} {
		for i := 0; i <= len(text); i++ {
			check(text[:i])
			check(text[i:])
			for b := range 256 {
				check(text[:i] + string([]byte{byte(b)}) + text[i:])
				if i < len(text) {
					check(text[:i] + string([]byte{byte(b)}) + text[i+1:])
				}
			}
			if i < len(text) {
				check(text[:i] + text[i+1:])
			}
		}
	}
}

// checkNoSickness checks that there is neither a value nor a premium.
func checkNoSickness(t *testing.T, x impl.LifeTable, s impl.SickTable, rate, age, n, benefit, want int64) {
	t.Helper()
	for _, f := range sicknesses {
		if price, code := f.price(x, s, rate, age, n, benefit); price != 0 || code != want {
			t.Errorf("%s(%v, %v, %d, %d, %d, %d) = %d, %d; want %d", f.name, x, s, rate, age, n, benefit, price, code, want)
		}
	}
}

// TestWrongArgumentsOfSickness has one argument that is not in its range, at ages at which D is 0, too.
func TestWrongArgumentsOfSickness(t *testing.T) {
	sicks := sampleSicks()
	for i, x := range append(sampleTables(), longTable) {
		s := sicks[i%len(sicks)]
		for _, age := range agesToTry(x) {
			for _, rate := range noRates {
				checkNoSickness(t, x, s, rate, age, 1, 500, impl.ErrRange)
			}
			for _, rate := range []int64{0, 40, impl.MaxRate} {
				for _, benefit := range noBenefits {
					checkNoSickness(t, x, s, rate, age, 1, benefit, impl.ErrRange)
				}
				for _, n := range append(noSickYears, impl.MaxAge+1-age, impl.MaxAge+2-age, math.MaxInt64-age) {
					if age+n > impl.MaxAge || n < 1 || n > maxSickYears {
						checkNoSickness(t, x, s, rate, age, n, 500, impl.ErrRange)
					}
				}
			}
		}
		for _, age := range wrongAges(x) {
			for _, n := range []int64{1, 2, maxSickYears} {
				checkNoSickness(t, x, s, 40, age, n, 500, impl.ErrRange)
			}
		}
	}
}

// TestYearsOfSickness has numbers n at both of their limits, 60 and the years up to MaxAge, and one beyond.
func TestYearsOfSickness(t *testing.T) {
	for _, x := range []impl.LifeTable{slowLives, longTable, lateTable, slowTable(20, 5, 120)} {
		s := alwaysSick(31)
		for age := x.First; age < endOf(x); age++ {
			last := min(maxSickYears, impl.MaxAge-age)
			for _, n := range []int64{1, last} {
				for _, f := range sicknesses {
					if price, code := f.price(x, s, 0, age, n, 1); code != impl.ErrNone || price < 0 {
						t.Errorf("%s(%v, %v, 0, %d, %d, 1) = %d, %d", f.name, x, s, age, n, price, code)
					}
				}
			}
			for _, n := range []int64{0, -1, last + 1, last + 2} {
				checkNoSickness(t, x, s, 0, age, n, 1, impl.ErrRange)
			}
		}
	}
}

// TestNobodyToBeSick has ages at which D is 0 as no lives are left, and such at which lives are left. At MaxAge there is no
// year before MaxAge, which is wrong before D is.
func TestNobodyToBeSick(t *testing.T) {
	s := alwaysSick(100)
	check := func(x impl.LifeTable, rate, age int64) {
		t.Helper()
		if age == impl.MaxAge {
			checkNoSickness(t, x, s, rate, age, 1, 500, impl.ErrRange)
			return
		}
		for _, n := range []int64{1, min(maxSickYears, impl.MaxAge-age)} {
			checkNoSickness(t, x, s, rate, age, n, 1, impl.ErrState)
			checkNoSickness(t, x, s, rate, age, n, maxBenefit, impl.ErrState)
		}
		checkNoSickness(t, x, s, rate, age, 0, 1, impl.ErrRange)
		checkNoSickness(t, x, s, rate, age, 1, maxBenefit+1, impl.ErrRange)
	}
	for _, x := range sampleTables() {
		for age := endOf(x); age <= impl.MaxAge; age++ {
			for _, rate := range []int64{0, 40, impl.MaxRate} {
				check(x, rate, age)
			}
		}
	}
	for age := int64(139); age <= 150; age++ {
		check(longTable, impl.MaxRate, age)
	}
}

// TestNoTableIsTheFirstErrorOfSickness has a life table or a sickness table that is none, or both, besides other arguments
// that are wrong.
func TestNoTableIsTheFirstErrorOfSickness(t *testing.T) {
	x, s := table(60, 100, 90, 72, 36, 0), sick(60, 2000, 3000)
	check := func(x impl.LifeTable, s impl.SickTable) {
		t.Helper()
		for _, rate := range []int64{0, 40, impl.MaxRate, -1, impl.MaxRate + 1} {
			for _, age := range append(wrongAges(x), x.First, 60, 64, 100, 150) {
				for _, n := range []int64{1, maxSickYears, 0, maxSickYears + 1, math.MinInt64, math.MaxInt64} {
					for _, benefit := range []int64{1, maxBenefit, 0, maxBenefit + 1} {
						checkNoSickness(t, x, s, rate, age, n, benefit, impl.ErrInvalid)
					}
				}
			}
		}
	}
	for name, none := range noTables() {
		t.Run(name, func(t *testing.T) {
			check(none, s)
			check(none, impl.SickTable{})
		})
	}
	for name, none := range noSicks() {
		t.Run(name, func(t *testing.T) {
			check(x, none)
			check(table(60, 100, 101, 0), none)
			checkNoSickAges(t, none)
		})
	}
}

// checkNoSickAges checks that the functions without a life table tell that a sickness table is none, with ages that are
// wrong or not.
func checkNoSickAges(t *testing.T, none impl.SickTable) {
	t.Helper()
	for _, age := range append(noAges, 0, 60, none.First, impl.MaxAge) {
		if weeks, code := impl.WeeksAt(none, age); weeks != 0 || code != impl.ErrInvalid {
			t.Errorf("WeeksAt(%v, %d) = %d, %d", none, age, weeks, code)
		}
		checkNoSickWeeks(t, none, []int64{age}, impl.ErrInvalid)
		checkNoSickWeeks(t, none, fill(impl.MaxList+1, age), impl.ErrInvalid)
	}
	checkNoSickWeeks(t, none, nil, impl.ErrInvalid)
	if age, code := impl.WorstAge(none); age != 0 || code != impl.ErrInvalid {
		t.Errorf("WorstAge(%v) = %d, %d", none, age, code)
	}
}

// TestSicknessOfPartsOfSlices has numbers before and behind the lives, the weeks and the ages.
func TestSicknessOfPartsOfSlices(t *testing.T) {
	lives := []int64{700, 100, 90, 72, 36, 0, 33, 22, 11}
	weeks := []int64{-5, 2000, 3000, 4500, -6, 52001}
	ages := []int64{-1, 60, 61, 61, 70, 62, 151}
	x := impl.LifeTable{First: 60, Lives: lives[1:6]}
	s := impl.SickTable{First: 60, Weeks: weeks[1:3]}
	if value, code := impl.SickValue(x, s, 40, 60, 4, 500); value != 2299 || code != impl.ErrNone {
		t.Errorf("SickValue = %d, %d", value, code)
	}
	if premium, code := impl.SickPremium(x, s, 40, 60, 2, 500); premium != 1233 || code != impl.ErrNone {
		t.Errorf("SickPremium = %d, %d", premium, code)
	}
	if n, code := impl.SickWeeks(s, ages[1:5]); n != 8 || code != impl.ErrNone {
		t.Errorf("SickWeeks = %d, %d", n, code)
	}
	if age, code := impl.WorstAge(s); age != 61 || code != impl.ErrNone {
		t.Errorf("WorstAge = %d, %d", age, code)
	}
	if n, code := impl.WeeksAt(s, 62); n != 0 || code != impl.ErrNone {
		t.Errorf("WeeksAt = %d, %d", n, code)
	}
	if text := impl.SickText(s); text != "60 2000 3000" || !impl.IsSickTable(s) {
		t.Errorf("SickText = %q", text)
	}
	if !slices.Equal(lives, []int64{700, 100, 90, 72, 36, 0, 33, 22, 11}) || !slices.Equal(weeks, []int64{-5, 2000, 3000, 4500, -6, 52001}) || !slices.Equal(ages, []int64{-1, 60, 61, 61, 70, 62, 151}) {
		t.Errorf("an argument is changed: %v, %v, %v", lives, weeks, ages)
	}
}

func TestReadSickMemory(t *testing.T) {
	first, _ := impl.ReadSick("60 2000 3000")
	second, _ := impl.ReadSick("60 2000 3000")
	all := first.Weeks[:cap(first.Weeks)]
	for i := range all {
		all[i] = -9
	}
	third, _ := impl.ReadSick("60 2000 3000")
	if want := sick(60, 2000, 3000); !sameSick(second, want) || !sameSick(third, want) {
		t.Errorf("a result of ReadSick shares memory: %v, %v", second, third)
	}
}

func TestSicknessKeepsNothing(t *testing.T) {
	sicks := sampleSicks()
	checkKeepsNothing(t, func(x impl.LifeTable, rate int64) string {
		s := sicks[rate%int64(len(sicks))]
		value, code := impl.SickValue(x, s, rate, x.First, 1+rate%50, 500)
		premium, _ := impl.SickPremium(x, s, rate, x.First, 1+rate%50, 500)
		weeks, _ := impl.SickWeeks(s, []int64{x.First, x.First + 1, rate % 151})
		worst, _ := impl.WorstAge(s)
		return fmt.Sprint(value, code, premium, weeks, worst, impl.SickText(s))
	})
}
