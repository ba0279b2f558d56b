package tests

import (
	"fmt"
	"math"
	"math/rand"
	"slices"
	"testing"

	"loop.example/g01025/impl"
)

// The limits of chapter 14, which have no names in the package.
const (
	maxPension       = 1000000
	maxPensionMonths = 1200
)

const never = impl.NoMonth

// noPensions are numbers that are not in the range of rates.
var noPensions = []int64{-1, maxPension + 1, -maxPension, 1 << 32, math.MinInt64, math.MinInt64 + 1, math.MaxInt64 - 1, math.MaxInt64}

// noTimes are times of which both ends are months, but that are no times: from, to.
var noTimes = [][2]int64{
	{1, 0}, {1000, 999}, {1001, 0}, {lastMonth, 0}, {lastMonth, lastMonth - 1}, {2201, 1000},
	{0, 1201}, {1000, 2201}, {1000, 2202}, {0, lastMonth}, {lastMonth - 1201, lastMonth},
}

// family returns a value of the type Family, which need not be valid.
func family(death, married, widowed, left int64, children ...int64) impl.Family {
	return impl.Family{Death: death, Married: married, Widowed: widowed, Left: left, Children: children}
}

func sameFamily(a, b impl.Family) bool {
	return a.Death == b.Death && a.Married == b.Married && a.Widowed == b.Widowed && a.Left == b.Left && slices.Equal(a.Children, b.Children)
}

// isFamilyByHand reports whether f is valid.
func isFamilyByHand(f impl.Family) bool {
	isMonth := func(n int64) bool { return n >= 0 && n < 36000 }
	isMonthOrNever := func(n int64) bool { return n == -1 || isMonth(n) }
	rules := []bool{
		isMonth(f.Death),
		isMonthOrNever(f.Married),
		isMonthOrNever(f.Widowed),
		isMonthOrNever(f.Left),
		f.Widowed == -1 || f.Widowed-1 == f.Death,
		f.Widowed == -1 || f.Married != -1,
		f.Widowed == -1 || f.Married <= f.Death,
		f.Left == -1 || f.Widowed != -1,
		f.Left == -1 || f.Widowed <= f.Left,
		len(f.Children) <= 12,
	}
	for i, born := range f.Children {
		rules = append(rules, isMonth(born), born-9 <= f.Death, i == 0 || f.Children[i-1] <= born)
	}
	return !slices.Contains(rules, false)
}

// widowByHand reports whether the widow or widower of a valid family gets the pension in a month, or would get it in a month
// behind those that there are.
func widowByHand(f impl.Family, n int64) bool {
	if f.Widowed == -1 || n < f.Widowed {
		return false
	}
	return f.Left == -1 || n < f.Left
}

// orphansByHand returns how many children of a valid family get a pension in a month.
func orphansByHand(f impl.Family, n int64) int64 {
	count := int64(0)
	for _, born := range f.Children {
		if n > f.Death && n >= born && n < born+192 {
			count++
		}
	}
	return count
}

// pensionByHand returns what a valid family gets in a month.
func pensionByHand(f impl.Family, n, widow, orphan int64) int64 {
	cents := orphansByHand(f, n) * orphan
	if widowByHand(f, n) {
		cents += widow
	}
	return cents
}

// changesByHand returns all months in which a valid family's pensions are not those of the month before.
func changesByHand(f impl.Family) []int64 {
	changes := []int64{}
	for n := int64(1); n < impl.MaxMonth; n++ {
		if widowByHand(f, n) != widowByHand(f, n-1) || orphansByHand(f, n) != orphansByHand(f, n-1) {
			changes = append(changes, n)
		}
	}
	return changes
}

// endByHand returns the end of a valid family's pensions or its error, looking back from a month in which no child born in
// time gets a pension any more.
func endByHand(f impl.Family) (int64, int64) {
	n := int64(impl.MaxMonth + 300)
	if widowByHand(f, n) {
		return 0, impl.ErrNotFound
	}
	for n > f.Death+1 && !widowByHand(f, n-1) && orphansByHand(f, n-1) == 0 {
		n--
	}
	if n >= impl.MaxMonth {
		return 0, impl.ErrLimit
	}
	return n, impl.ErrNone
}

// randomFamily returns a valid family that is made by chance.
func randomFamily(random *rand.Rand) impl.Family {
	death := []int64{random.Int63n(250), 1000 + random.Int63n(20000), lastMonth - random.Int63n(250), lastMonth - random.Int63n(3)}[random.Intn(4)]
	f := family(death, never, never, never)
	if random.Intn(4) > 0 {
		f.Married = random.Int63n(min(death+3, impl.MaxMonth))
	}
	if f.Married != never && f.Married <= death && death < lastMonth && random.Intn(4) > 0 {
		f.Widowed = death + 1
		if random.Intn(3) > 0 {
			f.Left = min(f.Widowed+[]int64{0, 1, random.Int63n(10), random.Int63n(210), random.Int63n(20000)}[random.Intn(5)], lastMonth)
		}
	}
	for range []int{0, 1, 2, 3, random.Intn(13), 12}[random.Intn(6)] {
		born := death + 9 - []int64{random.Int63n(10), random.Int63n(25), random.Int63n(205), 192 + random.Int63n(12), random.Int63n(500)}[random.Intn(5)]
		f.Children = append(f.Children, min(max(born, 0), lastMonth))
	}
	slices.Sort(f.Children)
	return f
}

// familiesByChance calls try for many valid families that are made by chance.
func familiesByChance(seed int64, count int, try func(random *rand.Rand, f impl.Family)) {
	random := rand.New(rand.NewSource(seed))
	for range count {
		try(random, randomFamily(random))
	}
}

// familyExamples are valid families with numbers that a program in another language has reckoned: all months in which their
// pensions change, the pensions from each of these months on at the rates 500 and 7, the sum of what they get from the month
// before the death (or 0) on in 1200 months (or to the end of the months), and the end of their pensions with its error.
var familyExamples = []struct {
	f         impl.Family
	changes   []int64
	pensions  []int64
	sum       int64
	end, code int64
}{
	{family(1000, 800, 1001, 1030, 820, 900), []int64{1001, 1012, 1030, 1092}, []int64{514, 507, 7, 0}, 15214, 1092, impl.ErrNone},
	{family(1000, 800, 1001, never, 820, 900), []int64{1001, 1012, 1092}, []int64{514, 507, 500}, 599714, 0, impl.ErrNotFound},
	{family(1000, 800, never, never, 820, 900), []int64{1001, 1012, 1092}, []int64{14, 7, 0}, 714, 1092, impl.ErrNone},
	{family(1000, never, never, never, 820, 900), []int64{1001, 1012, 1092}, []int64{14, 7, 0}, 714, 1092, impl.ErrNone},
	// Only a widow or widower, for some months, for none, or for one; only a child; and nobody.
	{family(1000, 1000, 1001, 1030), []int64{1001, 1030}, []int64{500, 0}, 14500, 1030, impl.ErrNone},
	{family(1000, 1000, 1001, 1001), nil, nil, 0, 1001, impl.ErrNone},
	{family(1000, 1000, 1001, 1002), []int64{1001, 1002}, []int64{500, 0}, 500, 1002, impl.ErrNone},
	{family(1000, 1001, never, never, 1009), []int64{1009, 1201}, []int64{7, 0}, 1344, 1201, impl.ErrNone},
	{family(1000, never, never, never), nil, nil, 0, 1001, impl.ErrNone},
	// The last pension is that of the widow or widower, or that of a child.
	{family(1000, 900, 1001, 1193, 1001), []int64{1001, 1193}, []int64{507, 0}, 97344, 1193, impl.ErrNone},
	{family(1000, 900, 1001, 1194, 1001, 1002), []int64{1001, 1002, 1193, 1194}, []int64{507, 514, 507, 0}, 99188, 1194, impl.ErrNone},
	{family(1000, 900, 1001, 1192, 1000, 1009, 1009), []int64{1001, 1009, 1192, 1201}, []int64{507, 521, 14, 0}, 99525, 1201, impl.ErrNone},
	// A pension ends in the month in which another one begins, which is a change if one is that of the widow or widower.
	{family(1000, never, never, never, 812, 813, 1004, 1005), []int64{1001, 1196, 1197}, []int64{14, 7, 0}, 2737, 1197, impl.ErrNone},
	{family(1000, 900, 1001, 1005, 813, 1005), []int64{1001, 1005, 1197}, []int64{507, 7, 0}, 3372, 1197, impl.ErrNone},
	{family(1000, 900, 1001, 1009, 816, 817, 1008, 1009), []int64{1001, 1009, 1200, 1201}, []int64{514, 14, 7, 0}, 6793, 1201, impl.ErrNone},
	{family(1000, 900, 1001, 1200, 813, 1005), []int64{1001, 1197, 1200}, []int64{507, 500, 0}, 100872, 1200, impl.ErrNone},
	// Children who are too old at the death, or are so a month later.
	{family(1000, never, never, never, 700, 807, 808), nil, nil, 0, 1001, impl.ErrNone},
	{family(1000, never, never, never, 808, 809), nil, nil, 0, 1001, impl.ErrNone},
	{family(1000, never, never, never, 809, 810), []int64{1001, 1002}, []int64{7, 0}, 7, 1002, impl.ErrNone},
	{family(1000, never, never, never, 808, 1009), []int64{1009, 1201}, []int64{7, 0}, 1344, 1201, impl.ErrNone},
	{family(1000, 900, 1001, 1003, 700, 809, 809, 809, 810, 1003), []int64{1001, 1002, 1003, 1195}, []int64{507, 500, 7, 0}, 2351, 1195, impl.ErrNone},
	// Twelve children.
	{family(1000, never, never, never, 1000, 1000, 1000, 1000, 1000, 1000, 1000, 1000, 1000, 1000, 1000, 1000), []int64{1001, 1192}, []int64{84, 0}, 16044, 1192, impl.ErrNone},
	{family(1000, never, never, never, 1009, 1009, 1009, 1009, 1009, 1009, 1009, 1009, 1009, 1009, 1009, 1009), []int64{1009, 1201}, []int64{84, 0}, 16128, 1201, impl.ErrNone},
	{family(1000, never, never, never, 810, 820, 820, 830, 900, 901, 950, 950, 950, 1000, 1001, 1009), []int64{1001, 1002, 1009, 1012, 1022, 1092, 1093, 1142, 1192, 1193, 1201}, []int64{77, 70, 77, 63, 56, 49, 42, 21, 14, 7, 0}, 8575, 1201, impl.ErrNone},
	// The first months that there are.
	{family(0, 0, 1, 2, 0), []int64{1, 2, 192}, []int64{507, 7, 0}, 1837, 192, impl.ErrNone},
	{family(0, 0, 1, never, 0, 0, 9), []int64{1, 9, 192, 201}, []int64{514, 521, 507, 500}, 603518, 0, impl.ErrNotFound},
	{family(0, never, never, never), nil, nil, 0, 1, impl.ErrNone},
	{family(0, 0, 1, lastMonth), []int64{1, lastMonth}, []int64{500, 0}, 599500, lastMonth, impl.ErrNone},
	// The last ones.
	{family(lastMonth, lastMonth, never, never, lastMonth-10), nil, nil, 0, 0, impl.ErrLimit},
	{family(lastMonth, never, never, never), nil, nil, 0, 0, impl.ErrLimit},
	{family(lastMonth-1, never, never, never), nil, nil, 0, lastMonth, impl.ErrNone},
	{family(lastMonth-1, lastMonth-1, lastMonth, never), []int64{lastMonth}, []int64{500}, 0, 0, impl.ErrNotFound},
	{family(lastMonth-1, 5, lastMonth, lastMonth, lastMonth), []int64{lastMonth}, []int64{7}, 0, 0, impl.ErrLimit},
	{family(lastMonth-1, 5, lastMonth, lastMonth, lastMonth-192, lastMonth-191), []int64{lastMonth}, []int64{7}, 0, 0, impl.ErrLimit},
	{family(lastMonth-1, never, never, never, lastMonth-191), []int64{lastMonth}, []int64{7}, 0, 0, impl.ErrLimit},
	{family(lastMonth-200, never, never, never, lastMonth-200, lastMonth-192, lastMonth-191), []int64{lastMonth - 199, lastMonth - 192, lastMonth - 191, lastMonth - 8, lastMonth}, []int64{7, 14, 21, 14, 7}, 4018, 0, impl.ErrLimit},
	{family(lastMonth-200, never, never, never, lastMonth-200, lastMonth-193, lastMonth-192), []int64{lastMonth - 199, lastMonth - 193, lastMonth - 192, lastMonth - 8, lastMonth - 1, lastMonth}, []int64{7, 14, 21, 14, 7, 0}, 4025, lastMonth, impl.ErrNone},
	{family(lastMonth-200, lastMonth-300, lastMonth-199, lastMonth, lastMonth-200), []int64{lastMonth - 199, lastMonth - 8, lastMonth}, []int64{507, 500, 0}, 100837, lastMonth, impl.ErrNone},
	{family(lastMonth-200, lastMonth-300, lastMonth-199, lastMonth, lastMonth-200, lastMonth-191), []int64{lastMonth - 199, lastMonth - 191, lastMonth - 8, lastMonth}, []int64{507, 514, 507, 7}, 102174, 0, impl.ErrLimit},
	{family(lastMonth-200, lastMonth-300, lastMonth-199, never, lastMonth-193, lastMonth-191), []int64{lastMonth - 199, lastMonth - 193, lastMonth - 191, lastMonth - 1}, []int64{500, 507, 514, 507}, 102181, 0, impl.ErrNotFound},
	{family(lastMonth-9, never, never, never, lastMonth-9, lastMonth), []int64{lastMonth - 8, lastMonth}, []int64{7, 14}, 56, 0, impl.ErrLimit},
}

// noFamilies are values that are no valid families.
func noFamilies() map[string]impl.Family {
	return map[string]impl.Family{
		"zero value":                      {},
		"death never":                     family(never, never, never, never),
		"death never, widowed 0":          family(never, 0, 0, never),
		"death behind the last month":     family(impl.MaxMonth, 5, never, never),
		"least death":                     family(math.MinInt64, never, never, never),
		"greatest death":                  family(math.MaxInt64, never, never, never),
		"greatest death, widowed":         family(math.MaxInt64, 5, math.MinInt64, never),
		"greatest death but for one":      family(math.MaxInt64-1, 5, math.MaxInt64, never),
		"married at -2":                   family(1000, -2, never, never),
		"married behind the last month":   family(1000, impl.MaxMonth, never, never),
		"least marriage":                  family(1000, math.MinInt64, never, never),
		"least marriage, widowed":         family(1000, math.MinInt64, 1001, never),
		"greatest marriage":               family(1000, math.MaxInt64, never, never),
		"married at -2, widowed":          family(1000, -2, 1001, never),
		"widowed at -2":                   family(1000, 800, -2, never),
		"widowed in the month":            family(1000, 800, 1000, never),
		"widowed two months later":        family(1000, 800, 1002, never),
		"widowed at 0":                    family(1000, 800, 0, never),
		"widowed at 1":                    family(1000, 800, 1, never),
		"widowed behind the last month":   family(lastMonth, 800, impl.MaxMonth, never),
		"widowed in the last month":       family(lastMonth, 800, lastMonth, never),
		"least month of widowed":          family(1000, 800, math.MinInt64, never),
		"greatest month of widowed":       family(1000, 800, math.MaxInt64, never),
		"widowed, never married":          family(1000, never, 1001, never),
		"widowed and left, never married": family(1000, never, 1001, 1030),
		"widowed, married a month later":  family(1000, 1001, 1001, never),
		"widowed, married much later":     family(1000, lastMonth, 1001, 1030),
		"left in the month of the death":  family(1000, 800, 1001, 1000),
		"left at 0":                       family(1000, 800, 1001, 0),
		"left at -2":                      family(1000, 800, 1001, -2),
		"left at -2, never widowed":       family(1000, 800, never, -2),
		"left behind the last month":      family(1000, 800, 1001, impl.MaxMonth),
		"least month of leaving":          family(1000, 800, 1001, math.MinInt64),
		"greatest month of leaving":       family(1000, 800, 1001, math.MaxInt64),
		"left, never widowed":             family(1000, 800, never, 1030),
		"left a month later, the same":    family(1000, 800, never, 1001),
		"left at 0, never widowed":        family(1000, 800, never, 0),
		"left, never married":             family(1000, never, never, 1030),
		"13 children":                     family(1000, 800, never, never, fill(13, 900)...),
		"very many children":              family(1000, 800, 1001, 1030, fill(5000, 900)...),
		"a child never born":              family(1000, 800, never, never, never),
		"a child never born, and one":     family(1000, 800, never, never, never, 900),
		"a child born at -2":              family(1000, 800, never, never, -2, 900),
		"born 10 months later":            family(1000, 800, 1001, 1030, 1010),
		"born 10 months later, last":      family(1000, 800, 1001, 1030, 900, 1009, 1010),
		"born behind the last month":      family(lastMonth, 800, never, never, impl.MaxMonth),
		"born behind it, 9 months later":  family(lastMonth-8, 800, never, never, 900, impl.MaxMonth),
		"least birth":                     family(1000, 800, never, never, math.MinInt64),
		"greatest birth":                  family(1000, 800, never, never, math.MaxInt64),
		"children falling":                family(1000, 800, never, never, 901, 900),
		"children falling, last":          family(1000, 800, never, never, 700, 800, 900, 899),
		"children falling, first":         family(1000, 800, never, never, 900, 700, 800),
		"children falling, between":       family(1000, 800, never, never, 700, 900, 800, 950),
		"all wrong":                       family(-5, -5, -5, -5, 900, impl.MaxMonth, -5),
	}
}

// checkMonth compares what is paid in one month.
func checkMonth(t *testing.T, f impl.Family, n int64, widow bool, orphans int64) {
	t.Helper()
	if got, code := impl.GetsWidow(f, n); got != widow || code != impl.ErrNone {
		t.Errorf("GetsWidow(%v, %d) = %v, %d; want %v", f, n, got, code, widow)
	}
	if got, code := impl.OrphansIn(f, n); got != orphans || code != impl.ErrNone {
		t.Errorf("OrphansIn(%v, %d) = %d, %d; want %d", f, n, got, code, orphans)
	}
	for _, rates := range [][2]int64{{500, 7}, {0, 1}, {1, 0}, {0, 0}, {maxPension, maxPension}} {
		want := orphans * rates[1]
		if widow {
			want += rates[0]
		}
		checkPension(t, f, n, rates[0], rates[1], want, impl.ErrNone)
	}
}

// checkPension compares what is paid in one month for two rates; beside an error it has to be 0.
func checkPension(t *testing.T, f impl.Family, n, widow, orphan, want, wantCode int64) {
	t.Helper()
	if got, code := impl.PensionIn(f, n, widow, orphan); got != want || code != wantCode {
		t.Errorf("PensionIn(%v, %d, %d, %d) = %d, %d; want %d, %d", f, n, widow, orphan, got, code, want, wantCode)
	}
}

// checkBetween compares what is paid in a time; beside an error it has to be 0.
func checkBetween(t *testing.T, f impl.Family, from, to, widow, orphan, want, wantCode int64) {
	t.Helper()
	if got, code := impl.PensionBetween(f, from, to, widow, orphan); got != want || code != wantCode {
		t.Errorf("PensionBetween(%v, %d, %d, %d, %d) = %d, %d; want %d, %d", f, from, to, widow, orphan, got, code, want, wantCode)
	}
}

// checkNext compares the next change; beside an error it has to be 0.
func checkNext(t *testing.T, f impl.Family, n, want, wantCode int64) {
	t.Helper()
	if got, code := impl.NextChange(f, n); got != want || code != wantCode {
		t.Errorf("NextChange(%v, %d) = %d, %d; want %d, %d", f, n, got, code, want, wantCode)
	}
}

// checkEnd compares the end of the pensions; beside an error it has to be 0.
func checkEnd(t *testing.T, f impl.Family, want, wantCode int64) {
	t.Helper()
	if got, code := impl.EndOfPensions(f); got != want || code != wantCode {
		t.Errorf("EndOfPensions(%v) = %d, %d; want %d, %d", f, got, code, want, wantCode)
	}
}

// checkRemarried compares the family after a new marriage; beside an error it has to be the zero value.
func checkRemarried(t *testing.T, f impl.Family, n int64, want impl.Family, wantCode int64) {
	t.Helper()
	if got, code := impl.Remarry(f, n); !sameFamily(got, want) || code != wantCode {
		t.Errorf("Remarry(%v, %d) = %v, %d; want %v, %d", f, n, got, code, want, wantCode)
	}
}

// checkNoMonth checks that the functions that are asked about a month return an error and nothing else, at rates in their
// range.
func checkNoMonth(t *testing.T, f impl.Family, n, want int64) {
	t.Helper()
	if got, code := impl.GetsWidow(f, n); got || code != want {
		t.Errorf("GetsWidow(%v, %d) = %v, %d; want code %d", f, n, got, code, want)
	}
	if got, code := impl.OrphansIn(f, n); got != 0 || code != want {
		t.Errorf("OrphansIn(%v, %d) = %d, %d; want code %d", f, n, got, code, want)
	}
	for _, rate := range []int64{0, 1, maxPension} {
		checkPension(t, f, n, rate, maxPension-rate, 0, want)
	}
	checkNext(t, f, n, 0, want)
	checkRemarried(t, f, n, impl.Family{}, want)
}

// checkNoTime checks that there is no pension in a time.
func checkNoTime(t *testing.T, f impl.Family, from, to, want int64) {
	t.Helper()
	for _, rate := range []int64{0, 1, maxPension} {
		checkBetween(t, f, from, to, rate, maxPension-rate, 0, want)
	}
}

// monthsAround returns the months of a list, those before and after each of them, and the first and the last months that there
// are, strictly increasing.
func monthsAround(list ...int64) []int64 {
	around := []int64{0, 1, lastMonth - 1, lastMonth}
	for _, n := range list {
		for month := n - 1; month <= n+1; month++ {
			if month >= 0 && month <= lastMonth {
				around = append(around, month)
			}
		}
	}
	slices.Sort(around)
	return slices.Compact(around)
}

// happenings are all months in which something happens in a family: the month after the death, births, birthdays at which
// children get too old, and the months of the claim. Not all of them are months that there are.
func happenings(f impl.Family) []int64 {
	list := []int64{f.Death + 1, f.Widowed, f.Left}
	for _, born := range f.Children {
		list = append(list, born, born+192)
	}
	return list
}

func TestFamiliesConstants(t *testing.T) {
	if impl.MaxChildren != 12 || impl.OrphanMonths != 192 || impl.NoMonth != -1 {
		t.Errorf("constants = %d, %d, %d", impl.MaxChildren, impl.OrphanMonths, impl.NoMonth)
	}
}

func TestIsFamily(t *testing.T) {
	for _, c := range familyExamples {
		if !impl.IsFamily(c.f) {
			t.Errorf("IsFamily(%v) is false", c.f)
		}
	}
	for name, f := range noFamilies() {
		if impl.IsFamily(f) {
			t.Errorf("%s: IsFamily(%v) is true", name, f)
		}
	}
	familiesByChance(141, 20000, func(_ *rand.Rand, f impl.Family) {
		if !impl.IsFamily(f) {
			t.Errorf("IsFamily(%v) is false", f)
		}
	})
}

// checkIsFamily compares whether f is valid with the rules of the document.
func checkIsFamily(t *testing.T, f impl.Family, tried sorts) {
	t.Helper()
	want := isFamilyByHand(f)
	if got := impl.IsFamily(f); got != want {
		t.Errorf("IsFamily(%v) is %v", f, got)
	}
	tried.count(fmt.Sprint(want), true)
}

// TestClaimsOfFamilies tries all claims with months near each other: at the beginning of the months, between, and at the end.
func TestClaimsOfFamilies(t *testing.T) {
	tried := sorts{}
	for _, about := range []int64{0, 12, 1000, lastMonth, math.MaxInt64 - 10, math.MinInt64 + 10} {
		list := []int64{-2, never, 0, lastMonth, impl.MaxMonth}
		for n := about - 4; n <= about+4; n++ {
			list = append(list, n)
		}
		for _, death := range list {
			for _, married := range list {
				for _, widowed := range list {
					for _, left := range list {
						checkIsFamily(t, family(death, married, widowed, left), tried)
					}
				}
			}
		}
	}
	tried.checkAll(t, "true", "false")
}

// TestClaimsByTheRules has each rule about a claim just kept and just broken.
func TestClaimsByTheRules(t *testing.T) {
	for _, c := range []struct {
		death, married, widowed, left int64
		want                          bool
	}{
		// Months, and never, which death may not be.
		{0, 0, 1, 1, true},
		{-1, never, never, never, false},
		{lastMonth, never, never, never, true},
		{impl.MaxMonth, never, never, never, false},
		{0, -2, never, never, false},
		{0, lastMonth, never, never, true},
		{0, impl.MaxMonth, never, never, false},
		{0, 0, 1, lastMonth, true},
		{0, 0, 1, impl.MaxMonth, false},
		// Married in the month of the death, a month later, and never.
		{1000, 1000, 1001, never, true},
		{1000, 1001, 1001, never, false},
		{1000, never, 1001, never, false},
		{1000, 1000, never, never, true},
		{1000, 1001, never, never, true},
		{1000, never, never, never, true},
		// Widowed in the month after the death, one earlier, and one later.
		{1000, 0, 1001, never, true},
		{1000, 0, 1000, never, false},
		{1000, 0, 1002, never, false},
		// A death in the last month but one, and in the last one.
		{lastMonth - 1, 0, lastMonth, never, true},
		{lastMonth - 1, 0, lastMonth, lastMonth, true},
		{lastMonth - 1, 0, lastMonth, impl.MaxMonth, false},
		{lastMonth, 0, impl.MaxMonth, never, false},
		{lastMonth, lastMonth, never, never, true},
		// Left before, in and after the month of the claim, never, and without a claim.
		{1000, 0, 1001, 1000, false},
		{1000, 0, 1001, 1001, true},
		{1000, 0, 1001, 1002, true},
		{1000, 0, 1001, never, true},
		{1000, 0, 1001, -2, false},
		{1000, 0, never, 1000, false},
		{1000, 0, never, 1001, false},
		{1000, 0, never, 1002, false},
		{1000, 0, never, -2, false},
	} {
		if f := family(c.death, c.married, c.widowed, c.left); impl.IsFamily(f) != c.want {
			t.Errorf("IsFamily(%v) is %v", f, !c.want)
		}
	}
}

// TestNumbersOfChildren tries all numbers of children that are born in one month.
func TestNumbersOfChildren(t *testing.T) {
	for n := range 40 {
		for _, born := range []int64{0, 900, 1000, 1009} {
			if got := impl.IsFamily(family(1000, never, never, never, fill(n, born)...)); got != (n <= 12) {
				t.Errorf("IsFamily is %v for %d children", got, n)
			}
		}
	}
}

// TestBirthsOfFamilies tries all births of a child, and has one birth of several at its limits and one beyond, at all places.
func TestBirthsOfFamilies(t *testing.T) {
	tried := sorts{}
	for _, death := range []int64{0, 1, 500, lastMonth - 10, lastMonth - 9, lastMonth - 8, lastMonth} {
		for born := int64(-20); born < impl.MaxMonth+20; born++ {
			checkIsFamily(t, family(death, never, never, never, born), tried)
		}
		for _, n := range []int{1, 2, 3, impl.MaxChildren} {
			for i := range n {
				for _, born := range []int64{math.MinInt64, -2, -1, 0, 1, 400, 401, death, death + 9, death + 10, lastMonth, impl.MaxMonth, math.MaxInt64} {
					children := fill(n, min(death, 400))
					children[i] = born
					checkIsFamily(t, family(death, never, never, never, children...), tried)
				}
			}
		}
	}
	for _, born := range []int64{1009, 1010} {
		if got := impl.IsFamily(family(1000, never, never, never, born)); got != (born == 1009) {
			t.Errorf("IsFamily is %v for a child born at %d", got, born)
		}
	}
	tried.checkAll(t, "true", "false")
}

// TestOrdersOfChildren tries all short lists of births.
func TestOrdersOfChildren(t *testing.T) {
	tried := sorts{}
	listsOf(5, 3, func(children []int64) {
		checkIsFamily(t, family(0, 0, 1, 2, children...), tried)
	})
	// Of 0 to 5 births in 0..3, not decreasing, there are so many lists.
	if tried["true"] != 1+4+10+20+35+56 {
		t.Errorf("so many are valid and not: %v", tried)
	}
}

// TestPensionsExamples compares all months of families with their pensions from change to change.
func TestPensionsExamples(t *testing.T) {
	for _, c := range familyExamples {
		want, next := int64(0), 0
		for n := int64(0); n < impl.MaxMonth; n++ {
			if next < len(c.changes) && c.changes[next] == n {
				want = c.pensions[next]
				next++
			}
			// Both rates tell how many there are of whom.
			checkPension(t, c.f, n, 500, 7, want, impl.ErrNone)
		}
		for _, n := range monthsAround(append(happenings(c.f), c.changes...)...) {
			pension, code := impl.PensionIn(c.f, n, 500, 7)
			checkMonth(t, c.f, n, pension >= 500, pension%500/7)
			if code != impl.ErrNone {
				t.Errorf("PensionIn(%v, %d, 500, 7) returns the code %d", c.f, n, code)
			}
		}
	}
}

// TestFirstAndLastMonths has the months at which pensions begin and end, and those beside them.
func TestFirstAndLastMonths(t *testing.T) {
	for _, c := range []struct {
		f       impl.Family
		n       int64
		widow   bool
		orphans int64
	}{
		// The pension of a widow or widower: before it, its first and its last month, and the month of leaving.
		{family(1000, 800, 1001, 1030), 1000, false, 0},
		{family(1000, 800, 1001, 1030), 1001, true, 0},
		{family(1000, 800, 1001, 1030), 1029, true, 0},
		{family(1000, 800, 1001, 1030), 1030, false, 0},
		{family(1000, 800, 1001, 1001), 1001, false, 0},
		{family(1000, 800, 1001, 1002), 1001, true, 0},
		{family(1000, 800, 1001, 1002), 1002, false, 0},
		{family(1000, 800, 1001, never), lastMonth, true, 0},
		{family(1000, 800, 1001, lastMonth), lastMonth - 1, true, 0},
		{family(1000, 800, 1001, lastMonth), lastMonth, false, 0},
		{family(1000, 800, never, never), 1001, false, 0},
		// A child's pension: the month of the death, the next one, the last month, and the one behind it.
		{family(1000, never, never, never, 900), 900, false, 0},
		{family(1000, never, never, never, 900), 1000, false, 0},
		{family(1000, never, never, never, 900), 1001, false, 1},
		{family(1000, never, never, never, 900), 1091, false, 1},
		{family(1000, never, never, never, 900), 1092, false, 0},
		// A child born in the month of the death, in the next one, and after that.
		{family(1000, never, never, never, 1000), 1000, false, 0},
		{family(1000, never, never, never, 1000), 1001, false, 1},
		{family(1000, never, never, never, 1001), 1000, false, 0},
		{family(1000, never, never, never, 1001), 1001, false, 1},
		{family(1000, never, never, never, 1009), 1008, false, 0},
		{family(1000, never, never, never, 1009), 1009, false, 1},
		{family(1000, never, never, never, 1009), 1200, false, 1},
		{family(1000, never, never, never, 1009), 1201, false, 0},
		// A child who gets too old a month after the first pension, in the month after the death, and before.
		{family(1000, never, never, never, 810), 1001, false, 1},
		{family(1000, never, never, never, 810), 1002, false, 0},
		{family(1000, never, never, never, 809), 1000, false, 0},
		{family(1000, never, never, never, 809), 1001, false, 0},
		{family(1000, never, never, never, 700), 891, false, 0},
		{family(1000, never, never, never, 700), 892, false, 0},
		{family(1000, never, never, never, 700), 1001, false, 0},
		// Many children.
		{family(1000, 800, 1001, never, fill(12, 1000)...), 1001, true, 12},
		{family(1000, 800, 1001, never, fill(12, 1000)...), 1191, true, 12},
		{family(1000, 800, 1001, never, fill(12, 1000)...), 1192, true, 0},
		{family(1000, 800, 1001, 1004, 809, 810, 811, 1002, 1002, 1003), 1002, true, 3},
		{family(1000, 800, 1001, 1004, 809, 810, 811, 1002, 1002, 1003), 1003, true, 3},
		{family(1000, 800, 1001, 1004, 809, 810, 811, 1002, 1002, 1003), 1004, false, 3},
		// A death in the last month.
		{family(lastMonth, lastMonth, never, never, lastMonth), lastMonth, false, 0},
	} {
		checkMonth(t, c.f, c.n, c.widow, c.orphans)
	}
}

// TestPensionsByHand compares the pensions of families in the months about all that happens, and in some others.
func TestPensionsByHand(t *testing.T) {
	tried := sorts{}
	familiesByChance(142, 3000, func(random *rand.Rand, f impl.Family) {
		list := happenings(f)
		for range 10 {
			list = append(list, random.Int63n(impl.MaxMonth), f.Death+random.Int63n(220))
		}
		for _, n := range monthsAround(list...) {
			widow, orphans := widowByHand(f, n), orphansByHand(f, n)
			checkMonth(t, f, n, widow, orphans)
			tried.count("widow and orphans", widow && orphans > 0)
			tried.count("widow alone", widow && orphans == 0)
			tried.count("orphans alone", !widow && orphans > 0)
			tried.count("nobody after the death", !widow && orphans == 0 && n > f.Death)
			tried.count("nobody before", n <= f.Death)
			tried.count("twelve orphans", orphans == 12)
			widowRate, orphanRate := random.Int63n(maxPension+1), random.Int63n(maxPension+1)
			checkPension(t, f, n, widowRate, orphanRate, pensionByHand(f, n, widowRate, orphanRate), impl.ErrNone)
		}
	})
	tried.checkAll(t, "widow and orphans", "widow alone", "orphans alone", "nobody after the death", "nobody before", "twelve orphans")
}

func TestPensionBetweenExamples(t *testing.T) {
	type sum struct{ from, to, widow, orphan, want int64 }
	for _, c := range []struct {
		f    impl.Family
		sums []sum
	}{
		{family(1000, 800, 1001, 1030, 820, 900), []sum{
			{1000, 1014, 500, 100, 8900},
			{0, 1001, 500, 7, 0},
			{0, 1002, 500, 7, 514},
			{1000, 1001, 500, 7, 0},
			{1001, 1002, 500, 7, 514},
			{1001, 1001, 500, 7, 0},
			{1001, 1030, 500, 0, 14500},
			{1001, 1030, 0, 7, 280},
			{1029, 1030, 500, 7, 507},
			{1029, 1031, 500, 7, 514},
			{1030, 1031, 500, 7, 7},
			{1091, 1092, 500, 7, 7},
			{1092, 1093, 500, 7, 0},
			{1091, 1093, 500, 7, 7},
			{1092, 2292, 500, 7, 0},
			{0, 1200, 500, 7, 15214},
			{400, 1600, 500, 7, 15214},
			{1000, 2200, maxPension, maxPension, 131000000},
			{1000, 2200, 0, 0, 0},
			{1011, 1013, 1, 1000, 3002},
			{1012, 1012, 9, 9, 0},
			{0, 0, 9, 9, 0},
			{lastMonth, lastMonth, 9, 9, 0},
			{lastMonth - 1200, lastMonth, 9, 9, 0},
		}},
		{family(1000, 800, 1001, never, fill(12, 1009)...), []sum{
			{1009, 1201, maxPension, maxPension, 2496000000},
			{1000, 2200, maxPension, maxPension, 3503000000},
			{1001, 2201, maxPension, 0, 1200000000},
			{1001, 2201, 0, maxPension, 2304000000},
			{1001, 2201, maxPension, maxPension, 3504000000},
			{lastMonth - 1200, lastMonth, maxPension, maxPension, 1200000000},
			{lastMonth - 1, lastMonth, 999999, 5, 999999},
			{lastMonth, lastMonth, 7, 7, 0},
		}},
		{family(lastMonth-200, lastMonth-300, lastMonth-199, lastMonth-1, lastMonth-200, lastMonth-192, lastMonth-191), []sum{
			{lastMonth - 201, lastMonth, 500, 7, 103018},
			{lastMonth - 1200, lastMonth, 500, 7, 103018},
			{lastMonth - 1, lastMonth, 500, 7, 14},
			{lastMonth - 2, lastMonth - 1, 500, 7, 514},
			{lastMonth - 2, lastMonth, 500, 7, 528},
		}},
	} {
		for _, s := range c.sums {
			checkBetween(t, c.f, s.from, s.to, s.widow, s.orphan, s.want, impl.ErrNone)
		}
	}
	for _, c := range familyExamples {
		from := max(c.f.Death-1, 0)
		checkBetween(t, c.f, from, min(from+maxPensionMonths, lastMonth), 500, 7, c.sum, impl.ErrNone)
	}
}

// timeByChance returns two months that are a time, near a family's death or anywhere.
func timeByChance(random *rand.Rand, f impl.Family) (int64, int64) {
	from := []int64{random.Int63n(impl.MaxMonth), max(f.Death-random.Int63n(5), 0), min(f.Death+random.Int63n(220), lastMonth), max(f.Death-random.Int63n(1200), 0)}[random.Intn(4)]
	to := from + []int64{0, 1, 2, random.Int63n(50), random.Int63n(maxPensionMonths + 1), maxPensionMonths}[random.Intn(6)]
	return from, min(to, lastMonth)
}

// TestPensionsAddUp compares the pensions of a time with those of its months, and with those of its parts.
func TestPensionsAddUp(t *testing.T) {
	tried := sorts{}
	familiesByChance(143, 3000, func(random *rand.Rand, f impl.Family) {
		from, to := timeByChance(random, f)
		widow, orphan := random.Int63n(maxPension+1), random.Int63n(maxPension+1)
		byHand, byMonth := int64(0), int64(0)
		for n := from; n < to; n++ {
			byHand += pensionByHand(f, n, widow, orphan)
			cents, _ := impl.PensionIn(f, n, widow, orphan)
			byMonth += cents
		}
		checkBetween(t, f, from, to, widow, orphan, byHand, impl.ErrNone)
		checkBetween(t, f, from, to, widow, orphan, byMonth, impl.ErrNone)
		middle := from + random.Int63n(to-from+1)
		before, _ := impl.PensionBetween(f, from, middle, widow, orphan)
		after, _ := impl.PensionBetween(f, middle, to, widow, orphan)
		checkBetween(t, f, from, to, widow, orphan, before+after, impl.ErrNone)
		tried.count("no month", from == to)
		tried.count("1200 months", to-from == maxPensionMonths)
		tried.count("to the end", to == lastMonth)
		tried.count("nothing", from < to && byHand == 0)
		tried.count("two parts", before > 0 && after > 0)
	})
	tried.checkAll(t, "no month", "1200 months", "to the end", "nothing", "two parts")
}

// TestLengthsOfTimes tries all times about the longest one, from some months on.
func TestLengthsOfTimes(t *testing.T) {
	f := family(1000, 800, 1001, never)
	for _, from := range []int64{0, 1, 1001, 5000, lastMonth - 1201, lastMonth - 1200, lastMonth - 1199, lastMonth - 1, lastMonth} {
		for length := int64(-1300); length <= 1300; length++ {
			to := from + length
			if length < 0 || length > 1200 || to > lastMonth {
				checkNoTime(t, f, from, to, impl.ErrRange)
				continue
			}
			checkBetween(t, f, from, to, 3, 5, 3*max(0, to-max(from, 1001)), impl.ErrNone)
		}
	}
}

// changesOf walks from change to change, from the first month on.
func changesOf(t *testing.T, f impl.Family) []int64 {
	t.Helper()
	changes := []int64{}
	n, code := impl.NextChange(f, 0)
	for ; code == impl.ErrNone && len(changes) < 100; n, code = impl.NextChange(f, n) {
		changes = append(changes, n)
	}
	if n != 0 || code != impl.ErrNotFound {
		t.Errorf("the changes %v of %v end with %d and the code %d", changes, f, n, code)
	}
	return changes
}

func TestNextChangeExamples(t *testing.T) {
	for _, c := range familyExamples {
		if changes := changesOf(t, c.f); !slices.Equal(changes, c.changes) {
			t.Errorf("the changes of %v are %v; want %v", c.f, changes, c.changes)
		}
		// From each month on.
		next := 0
		for n := int64(0); n < impl.MaxMonth; n++ {
			if next < len(c.changes) && c.changes[next] <= n {
				next++
			}
			if next == len(c.changes) {
				checkNext(t, c.f, n, 0, impl.ErrNotFound)
			} else {
				checkNext(t, c.f, n, c.changes[next], impl.ErrNone)
			}
		}
	}
}

// TestPensionsChangeOnlyWhenSomethingHappens checks promise 14 by what is paid in all months: it changes in the months that
// NextChange tells and in no other ones, and something happens in each of these.
func TestPensionsChangeOnlyWhenSomethingHappens(t *testing.T) {
	tried := sorts{}
	familiesByChance(144, 60, func(_ *rand.Rand, f impl.Family) {
		changes, happened := changesOf(t, f), happenings(f)
		for n := int64(1); n < impl.MaxMonth; n++ {
			before, _ := impl.PensionIn(f, n-1, 100, 1)
			now, code := impl.PensionIn(f, n, 100, 1)
			isChange := now != before
			if code != impl.ErrNone || isChange != slices.Contains(changes, n) {
				t.Fatalf("%v gets %d before the month %d and %d in it; the changes are %v", f, before, n, now, changes)
			}
			if isChange && !slices.Contains(happened, n) {
				t.Fatalf("%v gets %d before the month %d and %d in it, and nothing has happened", f, before, n, now)
			}
			tried.count("a change", isChange)
			tried.count("a happening without a change", !isChange && slices.Contains(happened, n))
		}
	})
	tried.checkAll(t, "a change", "a happening without a change")
}

// TestNextChangeByHand looks for the changes of families month by month, and checks that each sort of change occurs.
func TestNextChangeByHand(t *testing.T) {
	tried := sorts{}
	familiesByChance(145, 1500, func(random *rand.Rand, f impl.Family) {
		want := changesByHand(f)
		for _, n := range monthsAround(append(happenings(f), random.Int63n(impl.MaxMonth))...) {
			if i := slices.IndexFunc(want, func(change int64) bool { return change > n }); i < 0 {
				checkNext(t, f, n, 0, impl.ErrNotFound)
			} else {
				checkNext(t, f, n, want[i], impl.ErrNone)
			}
		}
		for _, n := range want {
			widow, before := widowByHand(f, n), widowByHand(f, n-1)
			orphans, orphansBefore := orphansByHand(f, n), orphansByHand(f, n-1)
			tried.count("a widow's pension begins", widow && !before && orphans == orphansBefore)
			tried.count("a widow's pension ends", !widow && before && orphans == orphansBefore)
			tried.count("more orphans", widow == before && orphans > orphansBefore)
			tried.count("fewer orphans", widow == before && orphans < orphansBefore)
			tried.count("both", widow != before && orphans != orphansBefore)
			tried.count("in the last month", n == lastMonth)
		}
		for _, born := range f.Children {
			end := born + 192
			tried.count("one for the other", end > f.Death+1 && slices.Contains(f.Children, end) && !slices.Contains(want, end))
			tried.count("no month", end >= impl.MaxMonth)
		}
		tried.count("no change", len(want) == 0)
	})
	tried.checkAll(t, "a widow's pension begins", "a widow's pension ends", "more orphans", "fewer orphans", "both", "in the last month", "one for the other", "no month", "no change")
}

func TestEndOfPensionsExamples(t *testing.T) {
	for _, c := range familyExamples {
		checkEnd(t, c.f, c.end, c.code)
	}
	for _, c := range []struct {
		f         impl.Family
		end, code int64
	}{
		// The last month that is an end, and the next one: of a child, of a claim, and of nothing.
		{family(lastMonth-192, never, never, never, lastMonth-192), lastMonth, impl.ErrNone},
		{family(lastMonth-192, never, never, never, lastMonth-191), 0, impl.ErrLimit},
		{family(lastMonth-5, 0, lastMonth-4, lastMonth), lastMonth, impl.ErrNone},
		{family(lastMonth-5, 0, lastMonth-4, lastMonth-1), lastMonth - 1, impl.ErrNone},
		{family(lastMonth-1, 0, lastMonth, lastMonth), lastMonth, impl.ErrNone},
		{family(lastMonth-1, never, never, never, lastMonth-192), lastMonth, impl.ErrNone},
		{family(lastMonth, 0, never, never, lastMonth-192), 0, impl.ErrLimit},
		// A claim without end comes before an end that is no month.
		{family(lastMonth-5, 0, lastMonth-4, never), 0, impl.ErrNotFound},
		{family(lastMonth-5, 0, lastMonth-4, never, lastMonth-5), 0, impl.ErrNotFound},
		{family(lastMonth-1, 0, lastMonth, never, lastMonth), 0, impl.ErrNotFound},
		// The last child, also where others are born before, or are too old.
		{family(1000, 0, 1001, 1002, 809, 900), 1092, impl.ErrNone},
		{family(1000, 0, 1001, 1002, 808, 809), 1002, impl.ErrNone},
		{family(1000, 0, 1001, 1001, 808, 809), 1001, impl.ErrNone},
		{family(1000, 0, 1001, 20000, 808, 1009), 20000, impl.ErrNone},
		{family(0, never, never, never, 9, 9), 201, impl.ErrNone},
	} {
		checkEnd(t, c.f, c.end, c.code)
	}
}

func TestEndOfPensionsByHand(t *testing.T) {
	tried := sorts{}
	familiesByChance(146, 3000, func(_ *rand.Rand, f impl.Family) {
		end, code := endByHand(f)
		checkEnd(t, f, end, code)
		tried.count(fmt.Sprint(code), true)
		tried.count("nothing", code == impl.ErrNone && end == f.Death+1)
		tried.count("of a claim", code == impl.ErrNone && end == f.Left && orphansByHand(f, end-1) == 0)
		tried.count("of a child", code == impl.ErrNone && end > f.Death+1 && !widowByHand(f, end-1))
	})
	tried.checkAll(t, fmt.Sprint(impl.ErrNone), fmt.Sprint(impl.ErrNotFound), fmt.Sprint(impl.ErrLimit), "nothing", "of a claim", "of a child")
}

// TestEndIsTheLastChange has an end in the month of the last change, if there is one, and nothing paid from it on.
func TestEndIsTheLastChange(t *testing.T) {
	familiesByChance(147, 3000, func(_ *rand.Rand, f impl.Family) {
		end, code := impl.EndOfPensions(f)
		if code != impl.ErrNone {
			return
		}
		want := f.Death + 1
		if changes := changesOf(t, f); len(changes) > 0 {
			want = changes[len(changes)-1]
		}
		if end != want {
			t.Errorf("EndOfPensions(%v) = %d; the last change is at %d", f, end, want)
		}
		checkMonth(t, f, end, false, 0)
		checkNext(t, f, end, 0, impl.ErrNotFound)
	})
}

func TestRemarryExamples(t *testing.T) {
	f := family(1000, 800, 1001, 1030, 820, 900)
	without := family(1000, 800, 1001, never, 820, 900)
	for _, c := range []struct {
		f       impl.Family
		n, left int64
	}{
		// The first month of the claim, the next one, the last one.
		{f, 1001, 1001},
		{f, 1002, 1002},
		{f, 1029, 1029},
		{without, 1001, 1001},
		{without, 1030, 1030},
		{without, lastMonth, lastMonth},
		{family(1000, 1000, 1001, 1002), 1001, 1001},
		{family(0, 0, 1, never, fill(12, 9)...), 1, 1},
		{family(lastMonth-1, 0, lastMonth, never), lastMonth, lastMonth},
	} {
		want := c.f
		want.Left = c.left
		checkRemarried(t, c.f, c.n, want, impl.ErrNone)
	}
	for _, c := range []struct {
		f impl.Family
		n int64
	}{
		// Before the claim, in the month of leaving, after it, and without any claim.
		{f, 0},
		{f, 1000},
		{f, 1030},
		{f, 1031},
		{f, lastMonth},
		{without, 0},
		{without, 1000},
		{family(1000, 1000, 1001, 1001), 1001},
		{family(1000, 1000, 1001, 1001), 1000},
		{family(1000, 1000, 1001, 1001), 1002},
		{family(1000, 800, never, never, 900), 1001},
		{family(1000, never, never, never), 1001},
		{family(lastMonth, 0, never, never), lastMonth},
	} {
		checkRemarried(t, c.f, c.n, impl.Family{}, impl.ErrState)
	}
}

// TestRemarryByHand compares families after a new marriage in months about all that happens, and what they get then.
func TestRemarryByHand(t *testing.T) {
	tried := sorts{}
	familiesByChance(148, 2000, func(random *rand.Rand, f impl.Family) {
		for _, n := range monthsAround(append(happenings(f), random.Int63n(impl.MaxMonth))...) {
			gets := widowByHand(f, n)
			tried.count(fmt.Sprint(gets), true)
			if !gets {
				checkRemarried(t, f, n, impl.Family{}, impl.ErrState)
				continue
			}
			want := f
			want.Left = n
			checkRemarried(t, f, n, want, impl.ErrNone)
			after, _ := impl.Remarry(f, n)
			if !impl.IsFamily(after) {
				t.Errorf("Remarry(%v, %d) = %v, which is not valid", f, n, after)
			}
			for _, month := range []int64{f.Widowed, n - 1, n, min(n+1, lastMonth), lastMonth} {
				checkMonth(t, after, month, widowByHand(f, month) && month < n, orphansByHand(f, month))
			}
			checkRemarried(t, after, n, impl.Family{}, impl.ErrState)
		}
	})
	tried.checkAll(t, "true", "false")
}

func TestRatesOfPensions(t *testing.T) {
	f := family(1000, 800, 1001, 1030, 820, 900)
	for _, rates := range [][2]int64{{0, 0}, {0, maxPension}, {maxPension, 0}, {maxPension, maxPension}, {1, maxPension - 1}, {maxPension - 1, 1}} {
		checkPension(t, f, 1001, rates[0], rates[1], rates[0]+2*rates[1], impl.ErrNone)
		checkBetween(t, f, 1001, 1003, rates[0], rates[1], 2*rates[0]+4*rates[1], impl.ErrNone)
		checkPension(t, f, 0, rates[0], rates[1], 0, impl.ErrNone)
		checkBetween(t, f, 5, 5, rates[0], rates[1], 0, impl.ErrNone)
	}
	// Also where nothing is paid.
	for _, f := range []impl.Family{f, family(1000, never, never, never), family(1000, 800, 1001, never), family(1000, never, never, never, 900)} {
		for _, wrong := range noPensions {
			for _, right := range []int64{0, 1, maxPension} {
				for _, n := range []int64{0, 1001, lastMonth} {
					checkPension(t, f, n, wrong, right, 0, impl.ErrRange)
					checkPension(t, f, n, right, wrong, 0, impl.ErrRange)
					checkPension(t, f, n, wrong, wrong, 0, impl.ErrRange)
					checkBetween(t, f, n, n, wrong, right, 0, impl.ErrRange)
					checkBetween(t, f, n, n, right, wrong, 0, impl.ErrRange)
				}
				checkBetween(t, f, 1001, 1003, wrong, right, 0, impl.ErrRange)
				checkBetween(t, f, 1001, 1003, right, wrong, 0, impl.ErrRange)
				checkBetween(t, f, 1001, 1003, wrong, -wrong, 0, impl.ErrRange)
			}
		}
	}
}

// TestMonthsOfFamilies asks about the first and the last month and about numbers that are no months.
func TestMonthsOfFamilies(t *testing.T) {
	for _, f := range []impl.Family{family(1000, 800, 1001, never, 820, 900), family(1000, never, never, never), family(0, 0, 1, never), family(lastMonth, 0, never, never)} {
		for _, n := range noMonths {
			checkNoMonth(t, f, n, impl.ErrRange)
			for _, month := range []int64{0, 1000, lastMonth} {
				checkNoTime(t, f, n, month, impl.ErrRange)
				checkNoTime(t, f, month, n, impl.ErrRange)
			}
			for _, other := range noMonths {
				checkNoTime(t, f, n, other, impl.ErrRange)
			}
		}
		for _, time := range noTimes {
			checkNoTime(t, f, time[0], time[1], impl.ErrRange)
		}
	}
	f := family(0, 0, 1, never, 0)
	checkMonth(t, f, 0, false, 0)
	checkMonth(t, f, lastMonth, true, 0)
	checkNext(t, f, 0, 1, impl.ErrNone)
	checkNext(t, f, lastMonth, 0, impl.ErrNotFound)
	checkRemarried(t, f, 0, impl.Family{}, impl.ErrState)
	checkRemarried(t, f, lastMonth, family(0, 0, 1, lastMonth, 0), impl.ErrNone)
}

// TestNoFamilyIsTheFirstError asks about values that are no valid families, with other arguments that are right and wrong.
func TestNoFamilyIsTheFirstError(t *testing.T) {
	for name, f := range noFamilies() {
		if isFamilyByHand(f) {
			t.Errorf("%s: %v is a family", name, f)
		}
		for _, n := range append([]int64{0, 900, 1000, 1001, 1030, lastMonth}, noMonths...) {
			checkNoMonth(t, f, n, impl.ErrInvalid)
			for _, wrong := range noPensions {
				checkPension(t, f, n, wrong, 1, 0, impl.ErrInvalid)
				checkPension(t, f, n, 1, wrong, 0, impl.ErrInvalid)
				checkBetween(t, f, n, 1000, wrong, 1, 0, impl.ErrInvalid)
				checkBetween(t, f, 1000, n, 1, wrong, 0, impl.ErrInvalid)
			}
			checkNoTime(t, f, n, n, impl.ErrInvalid)
			checkNoTime(t, f, 1000, n, impl.ErrInvalid)
		}
		for _, time := range noTimes {
			checkNoTime(t, f, time[0], time[1], impl.ErrInvalid)
		}
		checkEnd(t, f, 0, impl.ErrInvalid)
	}
}

// TestNoMonthComesBeforeOtherErrors asks about numbers that are no months where another error would follow.
func TestNoMonthComesBeforeOtherErrors(t *testing.T) {
	nobody := family(1000, never, never, never)
	for _, n := range noMonths {
		checkNext(t, nobody, n, 0, impl.ErrRange)
		checkRemarried(t, nobody, n, impl.Family{}, impl.ErrRange)
		checkRemarried(t, family(1000, 0, 1001, 1001), n, impl.Family{}, impl.ErrRange)
	}
}

// TestFamiliesShareNoMemory has the children in the middle of an array, whose other numbers have to stay, and overwrites what is
// returned up to its capacity.
func TestFamiliesShareNoMemory(t *testing.T) {
	back := []int64{900, 820, 901, 901, 902, 903}
	was := slices.Clone(back)
	f := family(1000, 800, 1001, 1030, back[1:4]...)
	for name, ask := range map[string]func() []int64{
		"IsFamily":       func() []int64 { impl.IsFamily(f); return nil },
		"GetsWidow":      func() []int64 { impl.GetsWidow(f, 1001); return nil },
		"OrphansIn":      func() []int64 { impl.OrphansIn(f, 1001); return nil },
		"PensionIn":      func() []int64 { impl.PensionIn(f, 1001, 5, 7); return nil },
		"PensionBetween": func() []int64 { impl.PensionBetween(f, 1000, 1100, 5, 7); return nil },
		"NextChange":     func() []int64 { impl.NextChange(f, 1001); return nil },
		"EndOfPensions":  func() []int64 { impl.EndOfPensions(f); return nil },
		"Remarry": func() []int64 {
			after, _ := impl.Remarry(f, 1005)
			return after.Children
		},
		"Remarry of a family with room for children": func() []int64 {
			after, _ := impl.Remarry(family(1000, 800, 1001, 1030, back[1:1]...), 1005)
			return append(after.Children, 7)
		},
		"Remarry with an error": func() []int64 {
			after, _ := impl.Remarry(f, 1030)
			return append(after.Children, 7)
		},
		"Remarry of what is no family": func() []int64 {
			after, _ := impl.Remarry(family(1000, 800, 1001, 1030, back[:4]...), 1005)
			return append(after.Children, 7)
		},
	} {
		first := fmt.Sprint(ask())
		list := ask()
		list = list[:cap(list)]
		for i := range list {
			list[i] = -1000
		}
		if !slices.Equal(back, was) || !sameFamily(f, family(1000, 800, 1001, 1030, 820, 901, 901)) {
			t.Fatalf("%s: an argument is changed: %v, %v", name, f, back)
		}
		if again := fmt.Sprint(ask()); again != first {
			t.Errorf("%s = %s; was %s", name, again, first)
		}
	}
	after, _ := impl.Remarry(f, 1005)
	for i := range back {
		back[i] = 77
	}
	if !sameFamily(after, family(1000, 800, 1001, 1005, 820, 901, 901)) {
		t.Errorf("Remarry returned %v", after)
	}
}

func TestFamiliesKeepNothing(t *testing.T) {
	checkKeepsNothing(t, func(x impl.LifeTable, rate int64) string {
		death := 1000 + rate
		f := family(death, rate, death+1, death+1+rate)
		for _, lives := range x.Lives[:min(len(x.Lives), impl.MaxChildren)] {
			f.Children = append(f.Children, death-lives%300)
		}
		slices.Sort(f.Children)
		n := death + 1 + rate/2
		told := []any{impl.IsFamily(f)}
		gets, code := impl.GetsWidow(f, n)
		told = append(told, gets, code)
		for _, ask := range []func() (int64, int64){
			func() (int64, int64) { return impl.OrphansIn(f, n) },
			func() (int64, int64) { return impl.PensionIn(f, n, rate, 1000-rate) },
			func() (int64, int64) { return impl.PensionBetween(f, death, n, rate, 1000-rate) },
			func() (int64, int64) { return impl.NextChange(f, n) },
			func() (int64, int64) { return impl.EndOfPensions(f) },
		} {
			number, code := ask()
			told = append(told, number, code)
		}
		after, code := impl.Remarry(f, n)
		return fmt.Sprint(append(told, after, code)...)
	})
}
