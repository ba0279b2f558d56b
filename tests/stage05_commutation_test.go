package tests

import (
	"math"
	"math/big"
	"math/rand"
	"slices"
	"sync"
	"testing"

	"loop.example/g01025/impl"
)

// maxLarge is the limit of chapter 5 that has no name in the package.
const maxLarge = 1000000000000000000

// Numbers that MultiplyDivide does not take.
var (
	noMultiplied  = []int64{-1, impl.MaxMoney + 1, maxLarge, math.MinInt64, math.MinInt64 + 1, math.MaxInt64 - 1, math.MaxInt64}
	noMultipliers = []int64{-1, maxLarge + 1, math.MinInt64, math.MinInt64 + 1, math.MaxInt64 - 1, math.MaxInt64}
	noDivisors    = []int64{0, -1, maxLarge + 1, math.MinInt64, math.MinInt64 + 1, math.MaxInt64 - 1, math.MaxInt64}
)

// listings are the functions that return a column, with what they take from the columns at an age.
var listings = []struct {
	name   string
	list   func(impl.LifeTable, int64) ([]int64, int64)
	column func(impl.Columns) int64
}{
	{"ColumnD", impl.ColumnD, func(c impl.Columns) int64 { return c.D }},
	{"ColumnN", impl.ColumnN, func(c impl.Columns) int64 { return c.N }},
	{"ColumnC", impl.ColumnC, func(c impl.Columns) int64 { return c.C }},
	{"ColumnM", impl.ColumnM, func(c impl.Columns) int64 { return c.M }},
}

// level returns a life table with n numbers that loses nobody before the end.
func level(first int64, lives int64, n int) impl.LifeTable {
	return impl.LifeTable{First: first, Lives: append(fill(n-1, lives), 0)}
}

// columnsByHand returns the columns from the first age of a table to MaxAge; discounts are those of the rate.
func columnsByHand(x impl.LifeTable, discounts []*big.Int) []impl.Columns {
	after := func(years int64) int64 {
		if years < int64(len(discounts)) {
			return discounts[years].Int64()
		}
		return 0
	}
	list := []impl.Columns{}
	for age := x.First; age <= impl.MaxAge; age++ {
		at := impl.Columns{}
		for later := age; later <= impl.MaxAge; later++ {
			years := later - x.First
			d := leftAt(x, later) * after(years)
			c := (leftAt(x, later) - leftAt(x, later+1)) * after(years+1)
			if later == age {
				at.D, at.C = d, c
			}
			at.N += d
			at.M += c
		}
		list = append(list, at)
	}
	return list
}

// checkColumns compares the columns of a table at a rate with those found by hand, at all ages.
func checkColumns(t *testing.T, x impl.LifeTable, rate int64) {
	t.Helper()
	want := columnsByHand(x, discountsByHand(rate))
	for k, at := range want {
		age := x.First + int64(k)
		if c, code := impl.ColumnsAt(x, rate, age); c != at || code != impl.ErrNone {
			t.Errorf("ColumnsAt(%v, %d, %d) = %v, %d; want %v", x, rate, age, c, code, at)
		}
	}
	for _, l := range listings {
		column := []int64{}
		for k := range x.Lives {
			column = append(column, l.column(want[k]))
		}
		if list, code := l.list(x, rate); !slices.Equal(list, column) || code != impl.ErrNone {
			t.Errorf("%s(%v, %d) = %v, %d; want %v", l.name, x, rate, list, code, column)
		}
	}
}

func TestColumnsAtExamples(t *testing.T) {
	x := table(60, 100, 90, 72, 36, 0)
	slow := slowTable(0, 5, 120)
	for _, c := range []struct {
		x         impl.LifeTable
		rate, age int64
		want      impl.Columns
	}{
		{x, 40, 60, impl.Columns{D: 100000000000, N: 285110377606, C: 9615384610, M: 89034216082}},
		{x, 40, 61, impl.Columns{D: 86538461490, N: 185110377606, C: 16642011816, M: 79418831472}},
		{x, 40, 62, impl.Columns{D: 66568047264, N: 98571916116, C: 32003868852, M: 62776819656}},
		{x, 40, 63, impl.Columns{D: 32003868852, N: 32003868852, C: 30772950804, M: 30772950804}},
		// The end of the table, the ages past it, and MaxAge.
		{x, 40, 64, impl.Columns{}},
		{x, 40, 65, impl.Columns{}},
		{x, 40, 149, impl.Columns{}},
		{x, 40, 150, impl.Columns{}},
		// The rates at the limits.
		{x, 0, 60, impl.Columns{D: 100000000000, N: 298000000000, C: 10000000000, M: 100000000000}},
		{x, 0, 63, impl.Columns{D: 36000000000, N: 36000000000, C: 36000000000, M: 36000000000}},
		{x, 200, 60, impl.Columns{D: 100000000000, N: 245833333246, C: 8333333330, M: 59027777690}},
		{x, 200, 63, impl.Columns{D: 20833333308, N: 20833333308, C: 17361111060, M: 17361111060}},
		// The ages 0 and 100 at the beginning.
		{table(0, 1, 0), 40, 0, impl.Columns{D: 1000000000, N: 1000000000, C: 961538461, M: 961538461}},
		{table(0, 1, 0), 40, 1, impl.Columns{}},
		{table(0, impl.MaxLives, 0), 200, 0, impl.Columns{D: 1000000000000000, N: 1000000000000000, C: 833333333000000, M: 833333333000000}},
		{table(100, 7, 7, 7, 0), 35, 100, impl.Columns{D: 7000000000, N: 20297859911, M: 6313598928}},
		{table(100, 7, 7, 7, 0), 35, 102, impl.Columns{D: 6534574893, N: 6534574893, C: 6313598928, M: 6313598928}},
		{table(100, 7, 7, 7, 0), 35, 103, impl.Columns{}},
		// More than MaxYears after the first age.
		{slow, 40, 0, impl.Columns{D: 5000000000, N: 35378376565, C: 961538461, M: 3639293145}},
		{slow, 40, 117, impl.Columns{D: 10164798, N: 19938642, M: 9397926}},
		{slow, 40, 118, impl.Columns{D: 9773844, N: 9773844, C: 9397926, M: 9397926}},
		{slow, 40, 119, impl.Columns{}},
		{slow, 40, 120, impl.Columns{}},
		{slow, 40, 121, impl.Columns{}},
		{slow, 40, 150, impl.Columns{}},
		// The greatest numbers, and discounts that come to 0 before the table ends.
		{level(31, impl.MaxLives, 120), 0, 31, impl.Columns{D: 1000000000000000, N: 119000000000000000, M: 1000000000000000}},
		{level(31, impl.MaxLives, 120), 0, 149, impl.Columns{D: 1000000000000000, N: 1000000000000000, C: 1000000000000000, M: 1000000000000000}},
		{level(31, impl.MaxLives, 120), 0, 150, impl.Columns{}},
		{level(31, impl.MaxLives, 120), 1, 149, impl.Columns{D: 888748402000000, N: 888748402000000, C: 887860541000000, M: 887860541000000}},
		{level(31, impl.MaxLives, 120), 200, 31, impl.Columns{D: 1000000000000000, N: 5999999741000000}},
		{level(31, impl.MaxLives, 120), 200, 138, impl.Columns{D: 1000000, N: 1000000}},
		{level(31, impl.MaxLives, 120), 200, 139, impl.Columns{}},
		{level(100, impl.MaxLives, 51), 200, 100, impl.Columns{D: 1000000000000000, N: 5999340572000000, M: 109883000000}},
		{level(100, impl.MaxLives, 51), 200, 149, impl.Columns{D: 131860000000, N: 131860000000, C: 109883000000, M: 109883000000}},
		{level(100, impl.MaxLives, 51), 200, 150, impl.Columns{}},
	} {
		if got, code := impl.ColumnsAt(c.x, c.rate, c.age); got != c.want || code != impl.ErrNone {
			t.Errorf("ColumnsAt(%v, %d, %d) = %v, %d; want %v", c.x, c.rate, c.age, got, code, c.want)
		}
	}
}

func TestColumnExamples(t *testing.T) {
	for _, c := range []struct {
		x    impl.LifeTable
		rate int64
		want [4][]int64
	}{
		{table(60, 100, 90, 72, 36, 0), 40, [4][]int64{
			{100000000000, 86538461490, 66568047264, 32003868852, 0},
			{285110377606, 185110377606, 98571916116, 32003868852, 0},
			{9615384610, 16642011816, 32003868852, 30772950804, 0},
			{89034216082, 79418831472, 62776819656, 30772950804, 0},
		}},
		{table(60, 100, 90, 72, 36, 0), 0, [4][]int64{
			{100000000000, 90000000000, 72000000000, 36000000000, 0},
			{298000000000, 198000000000, 108000000000, 36000000000, 0},
			{10000000000, 18000000000, 36000000000, 36000000000, 0},
			{100000000000, 90000000000, 72000000000, 36000000000, 0},
		}},
		{table(0, impl.MaxLives, 0), impl.MaxRate, [4][]int64{
			{1000000000000000, 0},
			{1000000000000000, 0},
			{833333333000000, 0},
			{833333333000000, 0},
		}},
		{table(100, 7, 7, 7, 0), 35, [4][]int64{
			{7000000000, 6763285018, 6534574893, 0},
			{20297859911, 13297859911, 6534574893, 0},
			{0, 0, 6313598928, 0},
			{6313598928, 6313598928, 6313598928, 0},
		}},
	} {
		for i, l := range listings {
			if list, code := l.list(c.x, c.rate); !slices.Equal(list, c.want[i]) || code != impl.ErrNone {
				t.Errorf("%s(%v, %d) = %v, %d; want %v", l.name, c.x, c.rate, list, code, c.want[i])
			}
		}
	}
}

func TestColumnsByHand(t *testing.T) {
	for _, x := range sampleTables() {
		for _, rate := range []int64{0, 1, 40, impl.MaxRate} {
			checkColumns(t, x, rate)
		}
	}
	for rate := range int64(impl.MaxRate + 1) {
		checkColumns(t, slowTable(31, impl.MaxLives, 120), rate)
		checkColumns(t, table(60, 100, 90, 72, 36, 0), rate)
	}
	for first := range int64(101) {
		checkColumns(t, slowTable(first, 70, int(min(120, impl.MaxAge+1-first))), 25)
	}
}

// TestColumnsAreSums checks promise 5: the columns add up to each other from age to age, up to MaxAge.
func TestColumnsAreSums(t *testing.T) {
	for _, x := range sampleTables() {
		for _, rate := range []int64{0, 3, 35, 111, impl.MaxRate} {
			sum := impl.Columns{}
			for age := int64(impl.MaxAge); age >= x.First; age-- {
				at, code := impl.ColumnsAt(x, rate, age)
				sum.N += at.D
				sum.M += at.C
				if at.N != sum.N || at.M != sum.M || code != impl.ErrNone {
					t.Errorf("ColumnsAt(%v, %d, %d) = %v, %d; the sums are %d and %d", x, rate, age, at, code, sum.N, sum.M)
				}
				// Without interest, all who live at an age are paid for when they die.
				if rate == 0 && (at.M != at.D || at.D != leftAt(x, age)*impl.One) {
					t.Errorf("ColumnsAt(%v, 0, %d) = %v", x, age, at)
				}
			}
		}
	}
}

// TestColumnsOfPartsOfSlices has numbers before and behind the lives of a table.
func TestColumnsOfPartsOfSlices(t *testing.T) {
	back := []int64{700, 100, 90, 72, 36, 0, 33, 22, 11}
	x := impl.LifeTable{First: 60, Lives: back[1:6]}
	checkColumns(t, x, 40)
	if !slices.Equal(back, []int64{700, 100, 90, 72, 36, 0, 33, 22, 11}) {
		t.Errorf("an argument is changed: %v", back)
	}
	for _, l := range listings {
		first, _ := l.list(x, 40)
		second, _ := l.list(x, 40)
		want := slices.Clone(second)
		for i := range first {
			first[i] = -9
		}
		third, _ := l.list(x, 40)
		if !slices.Equal(second, want) || !slices.Equal(third, want) {
			t.Errorf("a result of %s shares memory: %v, %v", l.name, second, third)
		}
	}
	if !slices.Equal(back, []int64{700, 100, 90, 72, 36, 0, 33, 22, 11}) {
		t.Errorf("a result shares the memory of an argument: %v", back)
	}
}

// checkNoColumns checks that there are no columns at an age.
func checkNoColumns(t *testing.T, x impl.LifeTable, rate, age, want int64) {
	t.Helper()
	if c, code := impl.ColumnsAt(x, rate, age); c != (impl.Columns{}) || code != want {
		t.Errorf("ColumnsAt(%v, %d, %d) = %v, %d; want %d", x, rate, age, c, code, want)
	}
}

// checkNoLists checks that there are no columns of a table at a rate.
func checkNoLists(t *testing.T, x impl.LifeTable, rate, want int64) {
	t.Helper()
	for _, l := range listings {
		if list, code := l.list(x, rate); len(list) != 0 || code != want {
			t.Errorf("%s(%v, %d) = %v, %d; want %d", l.name, x, rate, list, code, want)
		}
	}
}

func TestColumnErrors(t *testing.T) {
	for _, x := range sampleTables() {
		for _, rate := range noRates {
			checkNoLists(t, x, rate, impl.ErrRange)
			for _, age := range []int64{x.First, endOf(x), impl.MaxAge} {
				checkNoColumns(t, x, rate, age, impl.ErrRange)
			}
			checkNoColumns(t, x, rate, x.First-1, impl.ErrRange)
		}
		for _, age := range wrongAges(x) {
			for _, rate := range []int64{0, 40, impl.MaxRate} {
				checkNoColumns(t, x, rate, age, impl.ErrRange)
			}
		}
	}
}

// TestNoTableIsTheFirstErrorOfColumns has wrong rates and ages besides tables that are none.
func TestNoTableIsTheFirstErrorOfColumns(t *testing.T) {
	for name, x := range noTables() {
		t.Run(name, func(t *testing.T) {
			for _, rate := range append([]int64{0, 40, impl.MaxRate}, noRates...) {
				checkNoLists(t, x, rate, impl.ErrInvalid)
				for _, age := range append(wrongAges(x), x.First, 0, 60, 61, 62, 100, 149, 150) {
					checkNoColumns(t, x, rate, age, impl.ErrInvalid)
				}
			}
		})
	}
}

func TestMultiplyDivideExamples(t *testing.T) {
	for _, c := range []struct{ a, b, c, quotient, remainder int64 }{
		{7, 5, 3, 11, 2},
		{6, 5, 3, 10, 0},
		{6, 5, 31, 0, 30},
		{6, 5, 30, 1, 0},
		{1, 1, 1, 1, 0},
		{0, 5, 3, 0, 0},
		{5, 0, 3, 0, 0},
		{0, 0, 1, 0, 0},
		{0, maxLarge, maxLarge, 0, 0},
		{impl.MaxMoney, 0, maxLarge, 0, 0},
		// Products that an int64, and a word, cannot hold.
		{123456789012, 987654321098765432, 999999999999999999, 121932631136, 680384074035664320},
		{987654321, 987654321987654321, 998877665544332211, 976557082, 426487093177202739},
		{impl.MaxMoney, 18446745, 19, 970881315789473684, 4},
		{impl.MaxMoney, 18446744, 19, 970881263157894736, 16},
		// All at their limits, and one of them less.
		{impl.MaxMoney, maxLarge, maxLarge, impl.MaxMoney, 0},
		{impl.MaxMoney, maxLarge, maxLarge - 1, impl.MaxMoney, impl.MaxMoney},
		{impl.MaxMoney, maxLarge - 1, maxLarge, impl.MaxMoney - 1, 999999000000000000},
		{1, maxLarge, maxLarge, 1, 0},
		{1, maxLarge - 1, maxLarge, 0, maxLarge - 1},
		// Quotients at their limit.
		{1, maxLarge, 1, maxLarge, 0},
		{2, 500000000000000000, 1, maxLarge, 0},
		{impl.MaxMoney, 1000000, 1, maxLarge, 0},
		{impl.MaxMoney, maxLarge, impl.MaxMoney, maxLarge, 0},
		{999999999999, maxLarge, 999999999999, maxLarge, 0},
		{3, 666666666666666667, 2, maxLarge, 1},
		{7, 571428571428571429, 4, maxLarge, 3},
		{139, 93525179856115108, 13, maxLarge, 12},
	} {
		if q, r, code := impl.MultiplyDivide(c.a, c.b, c.c); q != c.quotient || r != c.remainder || code != impl.ErrNone {
			t.Errorf("MultiplyDivide(%d, %d, %d) = %d, %d, %d; want %d, %d", c.a, c.b, c.c, q, r, code, c.quotient, c.remainder)
		}
	}
}

func TestGreatQuotients(t *testing.T) {
	for _, c := range []struct{ a, b, c int64 }{
		// Too great by one.
		{999999000001, 1000001, 1},
		{999999000001, 101000101, 101},
		// And by more: quotients beyond the signed numbers, beyond all words, and the greatest one.
		{2, 500000000000000001, 1},
		{impl.MaxMoney, 1000001, 1},
		{impl.MaxMoney, maxLarge, 999999999999},
		{impl.MaxMoney, maxLarge - 1, 999999999999},
		{impl.MaxMoney, 9223373, 3},
		{impl.MaxMoney, 9223372, 1},
		{impl.MaxMoney, 9223373, 1},
		{impl.MaxMoney, 18446744, 1},
		{impl.MaxMoney, 18446745, 1},
		{impl.MaxMoney, 36893489, 2},
		{impl.MaxMoney, maxLarge, 54210108624},
		{impl.MaxMoney, maxLarge, 54210108625},
		{impl.MaxMoney, maxLarge, 2},
		{impl.MaxMoney, maxLarge, 1},
	} {
		if q, r, code := impl.MultiplyDivide(c.a, c.b, c.c); q != 0 || r != 0 || code != impl.ErrLimit {
			t.Errorf("MultiplyDivide(%d, %d, %d) = %d, %d, %d", c.a, c.b, c.c, q, r, code)
		}
	}
}

// checkDivision compares MultiplyDivide with a division of big numbers.
func checkDivision(t *testing.T, a, b, c int64) {
	t.Helper()
	product := new(big.Int).Mul(big.NewInt(a), big.NewInt(b))
	quotient, remainder := new(big.Int).DivMod(product, big.NewInt(c), new(big.Int))
	wantCode := int64(impl.ErrNone)
	if quotient.Cmp(big.NewInt(maxLarge)) > 0 {
		quotient, remainder, wantCode = new(big.Int), new(big.Int), impl.ErrLimit
	}
	q, r, code := impl.MultiplyDivide(a, b, c)
	if q != quotient.Int64() || r != remainder.Int64() || code != wantCode {
		t.Errorf("MultiplyDivide(%d, %d, %d) = %d, %d, %d; want %d, %d, %d", a, b, c, q, r, code, quotient, remainder, wantCode)
	}
}

func TestMultiplyDivideByHand(t *testing.T) {
	random := rand.New(rand.NewSource(51))
	upTo := func(limit int64) int64 {
		return random.Int63n(min(limit, []int64{3, 1000, impl.MaxMoney, maxLarge}[random.Intn(4)]) + 1)
	}
	for range 200000 {
		checkDivision(t, upTo(impl.MaxMoney), upTo(maxLarge), max(upTo(maxLarge), 1))
	}
	ends := func(limit int64) []int64 { return []int64{0, 1, 2, 3, limit / 2, limit - 2, limit - 1, limit} }
	for _, a := range ends(impl.MaxMoney) {
		for _, b := range ends(maxLarge) {
			for _, c := range ends(maxLarge)[1:] {
				checkDivision(t, a, b, c)
			}
			// Divisors about those whose quotient is just at its limit.
			for c := max(a/2, 1); c <= a/2+3; c++ {
				checkDivision(t, a, b, c)
			}
			for c := max(a-3, 1); c <= a+3; c++ {
				checkDivision(t, a, b, c)
			}
		}
	}
}

func TestMultiplyDivideErrors(t *testing.T) {
	check := func(a, b, c int64) {
		t.Helper()
		if q, r, code := impl.MultiplyDivide(a, b, c); q != 0 || r != 0 || code != impl.ErrRange {
			t.Errorf("MultiplyDivide(%d, %d, %d) = %d, %d, %d", a, b, c, q, r, code)
		}
	}
	for _, wrong := range noMultiplied {
		for _, b := range []int64{0, 1, maxLarge} {
			check(wrong, b, 1)
			check(wrong, b, maxLarge)
		}
	}
	// What is not in its range is wrong before a quotient is too great.
	for _, wrong := range noMultipliers {
		for _, a := range []int64{0, 1, impl.MaxMoney} {
			check(a, wrong, 1)
			check(a, wrong, maxLarge)
		}
	}
	for _, wrong := range noDivisors {
		for _, a := range []int64{0, 1, impl.MaxMoney} {
			check(a, 0, wrong)
			check(a, maxLarge, wrong)
		}
	}
	check(-1, -1, 0)
	check(-1, -1, -1)
	check(-5, 1, -5)
}

// checkKeepsNothing asks for the answers to many tables and rates one after the other, and then again at the same time.
func checkKeepsNothing[T comparable](t *testing.T, ask func(x impl.LifeTable, rate int64) T) {
	t.Helper()
	tables := sampleTables()[:12]
	want := map[[2]int]T{}
	for i := range tables {
		for rate := range impl.MaxRate + 1 {
			want[[2]int{i, rate}] = ask(tables[i], int64(rate))
		}
	}
	var workers sync.WaitGroup
	for worker := range 4 {
		workers.Go(func() {
			random := rand.New(rand.NewSource(int64(worker)))
			for range 2000 {
				i, rate := random.Intn(len(tables)), random.Intn(impl.MaxRate+1)
				if got := ask(tables[i], int64(rate)); got != want[[2]int{i, rate}] {
					t.Errorf("%v at the rate %d: %v; want %v", tables[i], rate, got, want[[2]int{i, rate}])
				}
			}
		})
	}
	workers.Wait()
}

func TestColumnsKeepNothing(t *testing.T) {
	checkKeepsNothing(t, func(x impl.LifeTable, rate int64) impl.Columns {
		c, _ := impl.ColumnsAt(x, rate, x.First+1)
		return c
	})
}
