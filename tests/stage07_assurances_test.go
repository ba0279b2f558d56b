package tests

import (
	"fmt"
	"math"
	"math/big"
	"math/rand"
	"slices"
	"testing"

	"loop.example/g01025/impl"
)

// maxSum is the limit of chapter 7 that has no name in the package: of sums, and of the prices that SumFor takes.
const maxSum = 100000000

// Numbers that are not in the ranges of chapter 7.
var (
	noKinds = []int64{-1, 4, 5, -4, 256, 257, 1 << 32, 1<<32 + 1, math.MinInt64, math.MinInt64 + 1, math.MaxInt64 - 1, math.MaxInt64}
	noSums  = []int64{0, -1, maxSum + 1, -maxSum, math.MinInt64, math.MinInt64 + 1, math.MaxInt64 - 1, math.MaxInt64}
)

// kinds are the four kinds of assurances, with the numerators of their value and of their payments, found from the columns
// now and in n years.
var kinds = []struct {
	name      string
	kind      int64
	numerator func(now, later impl.Columns) int64
	payments  func(now, later impl.Columns) int64
}{
	{"AssureLife", impl.AssureLife, func(now, later impl.Columns) int64 { return now.M }, func(now, later impl.Columns) int64 { return now.N }},
	{"AssureTerm", impl.AssureTerm, func(now, later impl.Columns) int64 { return now.M - later.M }, paymentsForYears},
	{"AssureEndowment", impl.AssureEndowment, func(now, later impl.Columns) int64 { return now.M - later.M + later.D }, paymentsForYears},
	{"AssurePure", impl.AssurePure, func(now, later impl.Columns) int64 { return later.D }, paymentsForYears},
}

// paymentsForYears is the numerator of the payments of at most n years.
func paymentsForYears(now, later impl.Columns) int64 { return now.N - later.N }

func TestAssurancesConstants(t *testing.T) {
	for i, k := range kinds {
		if k.kind != int64(i) {
			t.Errorf("%s = %d", k.name, k.kind)
		}
	}
}

// TestAssuranceExamples has the prices and the level premiums for the four kinds in their order, n being 0 for the first one.
func TestAssuranceExamples(t *testing.T) {
	x := table(60, 100, 90, 72, 36, 0)
	for _, c := range []struct {
		x                    impl.LifeTable
		rate, age, n, amount int64
		prices, levels       [4]int64
	}{
		{x, 40, 60, 1, 10000, [4]int64{8904, 962, 9616, 8654}, [4]int64{3123, 962, 9616, 8654}},
		{x, 40, 60, 2, 10000, [4]int64{8904, 2626, 9283, 6657}, [4]int64{3123, 1408, 4977, 3569}},
		{x, 40, 60, 3, 10000, [4]int64{8904, 5827, 9027, 3201}, [4]int64{3123, 2302, 3567, 1265}},
		// As many years as there are lives for, and more.
		{x, 40, 60, 4, 10000, [4]int64{8904, 8904, 8904, 0}, [4]int64{3123, 3123, 3123, 0}},
		{x, 40, 60, 5, 10000, [4]int64{8904, 8904, 8904, 0}, [4]int64{3123, 3123, 3123, 0}},
		// The age 150 at the end of the years.
		{x, 40, 60, 90, 10000, [4]int64{8904, 8904, 8904, 0}, [4]int64{3123, 3123, 3123, 0}},
		{x, 40, 63, 87, 10000, [4]int64{9616, 9616, 9616, 0}, [4]int64{9616, 9616, 9616, 0}},
		// Later ages, up to the last one at which lives are left.
		{x, 40, 61, 1, 10000, [4]int64{9178, 1924, 9616, 7693}, [4]int64{4291, 1924, 9616, 7693}},
		{x, 40, 62, 1, 10000, [4]int64{9431, 4808, 9616, 4808}, [4]int64{6369, 4808, 9616, 4808}},
		{x, 40, 63, 1, 10000, [4]int64{9616, 9616, 9616, 0}, [4]int64{9616, 9616, 9616, 0}},
		// The least and the greatest sum.
		{x, 40, 60, 1, 1, [4]int64{1, 1, 1, 1}, [4]int64{1, 1, 1, 1}},
		{x, 40, 60, 3, 1, [4]int64{1, 1, 1, 1}, [4]int64{1, 1, 1, 1}},
		{x, 40, 60, 1, maxSum, [4]int64{89034217, 9615385, 96153847, 86538462}, [4]int64{31227982, 9615385, 96153847, 86538462}},
		{x, 40, 60, 3, maxSum, [4]int64{89034217, 58261266, 90265135, 32003869}, [4]int64{31227982, 23018478, 35662906, 12644428}},
		// Prices and level premiums that are whole, and such that are rounded up.
		{x, 0, 60, 1, 10, [4]int64{10, 1, 10, 9}, [4]int64{4, 1, 10, 9}},
		{x, 0, 60, 1, 11, [4]int64{11, 2, 11, 10}, [4]int64{4, 2, 11, 10}},
		{x, 0, 60, 2, 19, [4]int64{19, 6, 19, 14}, [4]int64{7, 3, 10, 8}},
		{x, 0, 60, 2, 25, [4]int64{25, 7, 25, 18}, [4]int64{9, 4, 14, 10}},
		{x, 0, 60, 2, 475, [4]int64{475, 133, 475, 342}, [4]int64{160, 70, 250, 180}},
		{x, 0, 60, 3, 149, [4]int64{149, 96, 149, 54}, [4]int64{50, 37, 57, 21}},
		{x, 0, 60, 3, 655, [4]int64{655, 420, 655, 236}, [4]int64{220, 160, 250, 90}},
		{x, 0, 60, 3, 3275, [4]int64{3275, 2096, 3275, 1179}, [4]int64{1099, 800, 1250, 450}},
		// The rates at the limits.
		{x, 0, 60, 90, maxSum, [4]int64{100000000, 100000000, 100000000, 0}, [4]int64{33557047, 33557047, 33557047, 0}},
		{x, impl.MaxRate, 60, 2, 10000, [4]int64{5903, 2084, 7084, 5000}, [4]int64{2402, 1191, 4048, 2858}},
		{x, impl.MaxRate, 62, 1, maxSum, [4]int64{76388889, 41666667, 83333334, 41666667}, [4]int64{53921569, 41666667, 83333334, 41666667}},
		{x, impl.MaxRate, 60, 3, 1, [4]int64{1, 1, 1, 1}, [4]int64{1, 1, 1, 1}},
		{longTable, 1, 31, 60, maxSum, [4]int64{88786055, 0, 94179275, 94179275}, [4]int64{790957, 0, 1616384, 1616384}},
		// Lives of one year, and the first age 0 with n at its limit.
		{table(0, 1, 0), 0, 0, impl.MaxYears, maxSum, [4]int64{100000000, 100000000, 100000000, 0}, [4]int64{100000000, 100000000, 100000000, 0}},
		{table(0, 1, 0), impl.MaxRate, 0, impl.MaxYears, 1, [4]int64{1, 1, 1, 0}, [4]int64{1, 1, 1, 0}},
		{table(0, impl.MaxLives, 0), 40, 0, 1, 10000, [4]int64{9616, 9616, 9616, 0}, [4]int64{9616, 9616, 9616, 0}},
		{slowLives, 40, 0, 60, 10000, [4]int64{7279, 7260, 7450, 191}, [4]int64{1029, 1095, 1124, 29}},
		{slowLives, 40, 0, impl.MaxYears, 10000, [4]int64{7279, 7279, 7279, 0}, [4]int64{1029, 1029, 1029, 0}},
		{slowLives, 0, 30, 100, maxSum, [4]int64{100000000, 100000000, 100000000, 0}, [4]int64{1123596, 1123596, 1123596, 0}},
		{slowLives, 0, 30, impl.MaxYears, maxSum, [4]int64{100000000, 100000000, 100000000, 0}, [4]int64{1123596, 1123596, 1123596, 0}},
		{slowLives, 40, 117, 1, maxSum, [4]int64{92455611, 0, 96153844, 96153844}, [4]int64{47134234, 0, 96153844, 96153844}},
		{slowLives, 40, 118, 32, maxSum, [4]int64{96153837, 96153837, 96153837, 0}, [4]int64{96153837, 96153837, 96153837, 0}},
		// Nobody dies for a long time; products that no int64 holds.
		{longTable, 0, 31, 1, maxSum, [4]int64{100000000, 0, 100000000, 100000000}, [4]int64{840337, 0, 100000000, 100000000}},
		{longTable, 0, 31, 118, maxSum, [4]int64{100000000, 0, 100000000, 100000000}, [4]int64{840337, 0, 847458, 847458}},
		{longTable, 0, 31, 119, maxSum, [4]int64{100000000, 100000000, 100000000, 0}, [4]int64{840337, 840337, 840337, 0}},
		{longTable, 35, 31, 60, 1, [4]int64{1, 0, 1, 1}, [4]int64{1, 0, 1, 1}},
		{longTable, 0, 149, 1, maxSum, [4]int64{100000000, 100000000, 100000000, 0}, [4]int64{100000000, 100000000, 100000000, 0}},
		// The first age 100, and a table that ends at MaxAge.
		{table(100, 7, 7, 7, 0), 35, 100, 2, 10000, [4]int64{9020, 0, 9336, 9336}, [4]int64{3111, 0, 4748, 4748}},
		{table(100, 7, 7, 7, 0), 35, 102, 48, 10000, [4]int64{9662, 9662, 9662, 0}, [4]int64{9662, 9662, 9662, 0}},
		{lateTable, impl.MaxRate, 100, 50, maxSum, [4]int64{10989, 10989, 10989, 0}, [4]int64{1832, 1832, 1832, 0}},
		{lateTable, impl.MaxRate, 120, 10, 777, [4]int64{4, 0, 126, 126}, [4]int64{1, 0, 25, 25}},
		{lateTable, impl.MaxRate, 149, 1, maxSum, [4]int64{83333081, 83333081, 83333081, 0}, [4]int64{83333081, 83333081, 83333081, 0}},
		// The least discounts, and years after which the discount is 0.
		{longTable, impl.MaxRate, 31, 100, maxSum, [4]int64{0, 0, 1, 1}, [4]int64{0, 0, 1, 1}},
		{longTable, impl.MaxRate, 31, 107, 1, [4]int64{0, 0, 1, 1}, [4]int64{0, 0, 1, 1}},
		{longTable, impl.MaxRate, 31, 119, maxSum, [4]int64{0, 0, 0, 0}, [4]int64{0, 0, 0, 0}},
		{longTable, impl.MaxRate, 137, 1, 10000, [4]int64{0, 0, 5000, 5000}, [4]int64{0, 0, 5000, 5000}},
		{longTable, impl.MaxRate, 138, 1, maxSum, [4]int64{0, 0, 0, 0}, [4]int64{0, 0, 0, 0}},
		{longTable, impl.MaxRate, 138, 12, 1, [4]int64{0, 0, 0, 0}, [4]int64{0, 0, 0, 0}},
		{slowLives, impl.MaxRate, 100, 7, maxSum, [4]int64{0, 0, 10000000, 10000000}, [4]int64{0, 0, 2631579, 2631579}},
		{slowLives, impl.MaxRate, 0, 100, 10000, [4]int64{5178, 5178, 5178, 1}, [4]int64{1790, 1790, 1790, 1}},
	} {
		name := fmt.Sprintf("(%v, %d, %d, %d, %d)", c.x, c.rate, c.age, c.n, c.amount)
		for i, k := range kinds {
			n := c.n
			if k.kind == impl.AssureLife {
				n = 0
			}
			if price, code := impl.AssurancePrice(c.x, c.rate, k.kind, c.age, n, c.amount); price != c.prices[i] || code != impl.ErrNone {
				t.Errorf("AssurancePrice%s of %s = %d, %d; want %d", name, k.name, price, code, c.prices[i])
			}
			if level, code := impl.LevelPremium(c.x, c.rate, k.kind, c.age, n, c.amount); level != c.levels[i] || code != impl.ErrNone {
				t.Errorf("LevelPremium%s of %s = %d, %d; want %d", name, k.name, level, code, c.levels[i])
			}
		}
		if term, pure, code := impl.TermPart(c.x, c.rate, c.age, c.n, c.amount); term != c.prices[1] || pure != c.prices[3] || code != impl.ErrNone {
			t.Errorf("TermPart%s = %d, %d, %d; want %d, %d", name, term, pure, code, c.prices[1], c.prices[3])
		}
	}
}

// yearsOfKind are numbers n that a kind and an age allow: 0 for AssureLife, and about the limits for the others.
func yearsOfKind(kind int64, x impl.LifeTable, age int64) []int64 {
	if kind == impl.AssureLife {
		return []int64{0}
	}
	return slices.DeleteFunc(numbersOfYears(x, age), func(n int64) bool { return n == 0 })
}

// checkAssured compares an assurance from an age on with fractions of columns that are found by hand.
func checkAssured(t *testing.T, x impl.LifeTable, rate, kind, age, n, amount int64, columns []impl.Columns) {
	t.Helper()
	now, later := columns[age-x.First], columns[age+n-x.First]
	numerator, payments := kinds[kind].numerator(now, later), kinds[kind].payments(now, later)
	arguments := []any{x, rate, kind, age, n, amount}
	if price, code := impl.AssurancePrice(x, rate, kind, age, n, amount); !isUp(price, product(amount, numerator), big.NewInt(now.D)) || code != impl.ErrNone {
		t.Errorf("AssurancePrice%v = %d, %d; the numerator is %d, D %d", arguments, price, code, numerator, now.D)
	}
	if level, code := impl.LevelPremium(x, rate, kind, age, n, amount); !isUp(level, product(amount, numerator), big.NewInt(payments)) || code != impl.ErrNone {
		t.Errorf("LevelPremium%v = %d, %d; the numerator is %d, that of the payments %d", arguments, level, code, numerator, payments)
	}
	if top, base, code := impl.AssuranceNumber(x, rate, kind, age, n); top != numerator || base != now.D || code != impl.ErrNone {
		t.Errorf("AssuranceNumber%v = %d, %d, %d; want %d, %d", arguments, top, base, code, numerator, now.D)
	}
	checkSum(t, x, rate, kind, age, n, amount, numerator, now.D)
}

// checkSum compares the sum for a price with a fraction that is found by hand.
func checkSum(t *testing.T, x impl.LifeTable, rate, kind, age, n, price, numerator, d int64) {
	t.Helper()
	want, wantCode := int64(0), int64(impl.ErrNotFound)
	if numerator > 0 {
		sum := new(big.Int).Div(product(price, d), big.NewInt(numerator))
		wantCode = impl.ErrLimit
		if sum.Cmp(big.NewInt(maxLarge)) <= 0 {
			want, wantCode = sum.Int64(), impl.ErrNone
		}
	}
	if sum, code := impl.SumFor(x, rate, kind, age, n, price); sum != want || code != wantCode {
		t.Errorf("SumFor(%v, %d, %s, %d, %d, %d) = %d, %d; want %d, %d", x, rate, kinds[kind].name, age, n, price, sum, code, want, wantCode)
	}
}

func TestAssurancesByHand(t *testing.T) {
	random := rand.New(rand.NewSource(71))
	for _, x := range sampleTables() {
		for _, rate := range []int64{0, 1, 40, 1 + random.Int63n(impl.MaxRate), impl.MaxRate} {
			columns := columnsByHand(x, discountsByHand(rate))
			for age := x.First; age < endOf(x); age++ {
				for _, k := range kinds {
					for _, n := range yearsOfKind(k.kind, x, age) {
						amount := []int64{1, 1 + random.Int63n(maxSum), maxSum}[random.Intn(3)]
						if columns[age-x.First].D == 0 {
							checkNoAssurance(t, x, rate, k.kind, age, n, amount, impl.ErrState)
						} else {
							checkAssured(t, x, rate, k.kind, age, n, amount, columns)
						}
					}
				}
			}
		}
	}
}

// TestAssurancesAtAllRates has the ages about which the discounts come to 0.
func TestAssurancesAtAllRates(t *testing.T) {
	for rate := range int64(impl.MaxRate + 1) {
		columns := columnsByHand(longTable, discountsByHand(rate))
		for age := int64(136); age < 150; age++ {
			for _, k := range kinds {
				for _, n := range yearsOfKind(k.kind, longTable, age) {
					if columns[age-31].D == 0 {
						checkNoAssurance(t, longTable, rate, k.kind, age, n, 100, impl.ErrState)
					} else {
						checkAssured(t, longTable, rate, k.kind, age, n, 100, columns)
					}
				}
			}
		}
	}
}

// TestPartsOfEndowments checks promise 7: an endowment costs what its parts cost, but for a cent.
func TestPartsOfEndowments(t *testing.T) {
	found := map[int64]int{}
	byChance(72, maxSum, func(random *rand.Rand, x impl.LifeTable, rate, age, amount int64) {
		for _, n := range append(yearsOfKind(impl.AssureEndowment, x, age), 1+random.Int63n(min(impl.MaxYears, impl.MaxAge-age))) {
			whole, code := impl.AssurancePrice(x, rate, impl.AssureEndowment, age, n, amount)
			term, termCode := impl.AssurancePrice(x, rate, impl.AssureTerm, age, n, amount)
			pure, pureCode := impl.AssurancePrice(x, rate, impl.AssurePure, age, n, amount)
			more := term + pure - whole
			arguments := []any{x, rate, age, n, amount}
			if more < 0 || more > 1 || termCode != code || pureCode != code {
				t.Errorf("%v: %d for the endowment, %d at death, %d if still alive; codes %d, %d, %d", arguments, whole, term, pure, code, termCode, pureCode)
			}
			if a, b, partCode := impl.TermPart(x, rate, age, n, amount); a != term || b != pure || partCode != code {
				t.Errorf("TermPart%v = %d, %d, %d; want %d, %d, %d", arguments, a, b, partCode, term, pure, code)
			}
			found[more]++
		}
	})
	if found[0] == 0 || found[1] == 0 {
		t.Errorf("differences that were tried: %v", found)
	}
}

// TestAssurancesYearByYear goes through all numbers of years: with one more of them, a sum at death costs no less, and one
// for those who are still alive no more.
func TestAssurancesYearByYear(t *testing.T) {
	for _, x := range []impl.LifeTable{table(60, 100, 90, 72, 36, 0), slowLives, longTable, lateTable, slowTable(30, 60, 120)} {
		for _, rate := range []int64{0, 35, impl.MaxRate} {
			life, _ := impl.AssurancePrice(x, rate, impl.AssureLife, x.First, 0, maxSum)
			lifeLevel, _ := impl.LevelPremium(x, rate, impl.AssureLife, x.First, 0, maxSum)
			terms, endowments, pures := []int64{}, []int64{}, []int64{}
			for n := int64(1); n <= min(impl.MaxYears, impl.MaxAge-x.First); n++ {
				whole, _ := impl.AssurancePrice(x, rate, impl.AssureEndowment, x.First, n, maxSum)
				term, pure, _ := impl.TermPart(x, rate, x.First, n, maxSum)
				level, code := impl.LevelPremium(x, rate, impl.AssureTerm, x.First, n, maxSum)
				// Nobody outlives the table: then all are assured for life.
				if n >= endOf(x)-x.First && (term != life || whole != life || pure != 0 || level != lifeLevel || code != impl.ErrNone) {
					t.Errorf("%v at the rate %d for %d years: %d, %d, %d, %d; for life %d, %d", x, rate, n, term, whole, pure, level, life, lifeLevel)
				}
				// What is paid in one year only is the price.
				if n == 1 && level != term {
					t.Errorf("%v at the rate %d: the premium of a year is %d, its price %d", x, rate, level, term)
				}
				terms, endowments, pures = append(terms, term), append(endowments, -whole), append(pures, -pure)
			}
			if !slices.IsSorted(terms) || !slices.IsSorted(endowments) || !slices.IsSorted(pures) {
				t.Errorf("%v at the rate %d: %v, %v, %v", x, rate, terms, endowments, pures)
			}
		}
	}
}

func TestSumForExamples(t *testing.T) {
	x := table(60, 100, 90, 72, 36, 0)
	for _, c := range []struct {
		x                               impl.LifeTable
		rate, kind, age, n, price, want int64
	}{
		{x, 40, impl.AssureLife, 60, 0, 8903, 9999},
		{x, 40, impl.AssureLife, 60, 0, 8904, 10000},
		{x, 40, impl.AssureTerm, 60, 1, 961, 9994},
		{x, 40, impl.AssureTerm, 60, 1, 962, 10004},
		{x, 40, impl.AssureEndowment, 60, 1, 9615, 9999},
		{x, 40, impl.AssureEndowment, 60, 1, 9616, 10000},
		{x, 40, impl.AssurePure, 60, 2, 6656, 9998},
		{x, 40, impl.AssurePure, 60, 2, 6657, 10000},
		// The least price, and prices that are just enough, and one less.
		{x, 40, impl.AssureLife, 60, 0, 1, 1},
		{x, 40, impl.AssurePure, 60, 3, 1, 3},
		{x, 0, impl.AssureTerm, 60, 1, 1, 10},
		{x, 0, impl.AssureTerm, 60, 2, 7, 25},
		{x, 0, impl.AssureTerm, 60, 2, 6, 21},
		{x, 0, impl.AssurePure, 60, 1, 9, 10},
		{x, 0, impl.AssurePure, 60, 1, 8, 8},
		// Prices that are the sums.
		{x, 0, impl.AssureLife, 60, 0, 1, 1},
		{x, 0, impl.AssureEndowment, 60, 3, 12345, 12345},
		{x, 0, impl.AssureLife, 63, 0, maxSum, maxSum},
		// The greatest price, and one less: the sum is greater than the greatest one of other functions.
		{x, 40, impl.AssureLife, 60, 0, maxSum, 112316370},
		{x, 40, impl.AssureLife, 60, 0, maxSum - 1, 112316369},
		{x, 40, impl.AssureTerm, 60, 1, maxSum, 1040000000},
		{x, 40, impl.AssurePure, 60, 3, maxSum, 312462222},
		{x, 40, impl.AssurePure, 60, 3, maxSum - 1, 312462219},
		{x, 0, impl.AssureTerm, 60, 1, maxSum, 1000000000},
		{x, impl.MaxRate, impl.AssureEndowment, 60, 2, maxSum, 141176470},
		{table(0, 1, 0), 40, impl.AssureEndowment, 0, impl.MaxYears, maxSum, 104000000},
		{slowLives, 40, impl.AssureLife, 0, 0, maxSum, 137389317},
		// Nobody dies for a long time.
		{longTable, 0, impl.AssurePure, 31, 118, maxSum, maxSum},
		{longTable, 40, impl.AssureLife, 31, 0, 1, 106},
		{longTable, 1, impl.AssureLife, 31, 0, maxSum, 112630301},
		{longTable, impl.MaxRate, impl.AssurePure, 31, 50, maxSum, 910058880809},
		{longTable, impl.MaxRate, impl.AssurePure, 31, 60, 1, 56353},
		{longTable, impl.MaxRate, impl.AssureEndowment, 31, 107, 1, 1000000000},
		{longTable, impl.MaxRate, impl.AssureEndowment, 31, 100, 1, 100000000},
		{longTable, impl.MaxRate, impl.AssurePure, 137, 1, maxSum, 200000000},
		{lateTable, impl.MaxRate, impl.AssureLife, 100, 0, 1, 9100},
		{lateTable, impl.MaxRate, impl.AssureLife, 100, 0, maxSum, 910058880809},
	} {
		if sum, code := impl.SumFor(c.x, c.rate, c.kind, c.age, c.n, c.price); sum != c.want || code != impl.ErrNone {
			t.Errorf("SumFor(%v, %d, %d, %d, %d, %d) = %d, %d; want %d", c.x, c.rate, c.kind, c.age, c.n, c.price, sum, code, c.want)
		}
	}
}

// fallingTable returns a life table with 110 numbers that has as many lives for some years, and then fewer ones to the end.
func fallingTable(lives int64, years int, fewer int64) impl.LifeTable {
	list := append(fill(years, lives), fill(109-years, fewer)...)
	return impl.LifeTable{First: 30, Lives: append(list, 0)}
}

// TestGreatSums has sums of AssurePure at their limit and about it; the price 1 is worth very much a hundred years later.
func TestGreatSums(t *testing.T) {
	for _, c := range []struct {
		lives                        int64
		years                        int
		fewer, rate, age, price, sum int64
	}{
		// One less than the limit, and what the next price is worth.
		{13131, 103, 125, 200, 32, 68540096, 999999999999999999},
		{13131, 103, 125, 200, 32, 68540097, 0},
		// The limit.
		{990179, 107, 28471, 200, 36, 85857153, 999999988352746936},
		{990179, 107, 28471, 200, 36, 85857154, 1000000000000000000},
		{990179, 107, 28471, 200, 36, 85857155, 0},
		{362138, 105, 8651, 199, 31, 85927594, 1000000000000000000},
		{362138, 105, 8651, 199, 31, 85927595, 0},
		// One more than the limit.
		{538091, 101, 1832, 200, 37, 97595198, 999999989753594335},
		{538091, 101, 1832, 200, 37, 97595199, 0},
		{768841, 105, 4541, 199, 32, 25472676, 999999960742249432},
		{768841, 105, 4541, 199, 32, 25472677, 0},
		// Much more.
		{impl.MaxLives, 107, 1, 200, 30, 1, 1000000000000000},
		{impl.MaxLives, 107, 1, 200, 30, 1000, 1000000000000000000},
		{impl.MaxLives, 107, 1, 200, 30, 1001, 0},
		{impl.MaxLives, 107, 1, 200, 30, 18447, 0},
		{impl.MaxLives, 107, 1, 200, 30, maxSum, 0},
	} {
		x := fallingTable(c.lives, c.years, c.fewer)
		wantCode := int64(impl.ErrNone)
		if c.sum == 0 {
			wantCode = impl.ErrLimit
		}
		n := x.First + int64(c.years) - c.age
		if sum, code := impl.SumFor(x, c.rate, impl.AssurePure, c.age, n, c.price); sum != c.sum || code != wantCode {
			t.Errorf("SumFor(%v, %d, AssurePure, %d, %d, %d) = %d, %d; want %d, %d", x, c.rate, c.age, n, c.price, sum, code, c.sum, wantCode)
		}
	}
}

// TestSumsWithoutValue has the sums that are never paid out, or for which the discount is 0.
func TestSumsWithoutValue(t *testing.T) {
	x := table(60, 100, 90, 72, 36, 0)
	for _, c := range []struct {
		x                  impl.LifeTable
		rate, kind, age, n int64
	}{
		// Nobody is alive then.
		{x, 40, impl.AssurePure, 60, 4},
		{x, 40, impl.AssurePure, 60, 90},
		{x, 40, impl.AssurePure, 63, 1},
		{table(0, 1, 0), 0, impl.AssurePure, 0, impl.MaxYears},
		// Nobody dies before.
		{longTable, 0, impl.AssureTerm, 31, 1},
		{longTable, 40, impl.AssureTerm, 31, 118},
		{table(100, 7, 7, 7, 0), 35, impl.AssureTerm, 100, 2},
		// The discounts are 0.
		{longTable, impl.MaxRate, impl.AssureLife, 31, 0},
		{longTable, impl.MaxRate, impl.AssureLife, 138, 0},
		{longTable, impl.MaxRate, impl.AssureTerm, 31, 119},
		{longTable, impl.MaxRate, impl.AssureEndowment, 31, 108},
		{longTable, impl.MaxRate, impl.AssureEndowment, 138, 1},
		{longTable, impl.MaxRate, impl.AssurePure, 31, 108},
	} {
		for _, price := range []int64{1, 12345, maxSum} {
			if sum, code := impl.SumFor(c.x, c.rate, c.kind, c.age, c.n, price); sum != 0 || code != impl.ErrNotFound {
				t.Errorf("SumFor(%v, %d, %d, %d, %d, %d) = %d, %d", c.x, c.rate, c.kind, c.age, c.n, price, sum, code)
			}
		}
		for _, price := range noSums {
			checkNoAssurance(t, c.x, c.rate, c.kind, c.age, c.n, price, impl.ErrRange)
		}
	}
}

func TestSumForByHand(t *testing.T) {
	random := rand.New(rand.NewSource(73))
	codes := map[int64]int{}
	for _, x := range append(sampleTables(), fallingTable(impl.MaxLives, 107, 1), fallingTable(impl.MaxLives, 100, 9)) {
		for _, rate := range []int64{0, 1, 40, random.Int63n(impl.MaxRate + 1), impl.MaxRate} {
			columns := columnsByHand(x, discountsByHand(rate))
			for _, age := range []int64{x.First, x.First + random.Int63n(endOf(x)-x.First), endOf(x) - 1} {
				for _, k := range kinds {
					for _, n := range yearsOfKind(k.kind, x, age) {
						now, later := columns[age-x.First], columns[age+n-x.First]
						if now.D == 0 {
							continue
						}
						for _, price := range []int64{1, 2, 1000, 1 + random.Int63n(maxSum), maxSum - 1, maxSum} {
							checkSum(t, x, rate, k.kind, age, n, price, k.numerator(now, later), now.D)
							_, code := impl.SumFor(x, rate, k.kind, age, n, price)
							codes[code]++
						}
					}
				}
			}
		}
	}
	if codes[impl.ErrNone] == 0 || codes[impl.ErrNotFound] == 0 || codes[impl.ErrLimit] == 0 {
		t.Errorf("codes that were tried: %v", codes)
	}
}

// TestSumsArePaidFor checks that the price of an assurance is the least one that is enough for its sum.
func TestSumsArePaidFor(t *testing.T) {
	byChance(74, maxSum, func(random *rand.Rand, x impl.LifeTable, rate, age, amount int64) {
		kind := random.Int63n(4)
		for _, n := range yearsOfKind(kind, x, age) {
			price, code := impl.AssurancePrice(x, rate, kind, age, n, amount)
			// SumFor takes no price less than 1.
			if code != impl.ErrNone || price < 2 {
				continue
			}
			arguments := []any{x, rate, kind, age, n}
			// A sum beyond the limit is enough, too.
			if sum, code := impl.SumFor(x, rate, kind, age, n, price); sum < amount && code != impl.ErrLimit {
				t.Errorf("%v: %d costs %d, which is enough for %d only", arguments, amount, price, sum)
			}
			if sum, _ := impl.SumFor(x, rate, kind, age, n, price-1); sum >= amount {
				t.Errorf("%v: %d costs %d, but one less is enough for %d", arguments, amount, price, sum)
			}
		}
	})
}

func TestNaturalPremiumsExamples(t *testing.T) {
	x := table(60, 100, 90, 72, 36, 0)
	for _, c := range []struct {
		x                    impl.LifeTable
		rate, age, n, amount int64
		want                 []int64
	}{
		{x, 40, 60, 1, 10000, []int64{962}},
		{x, 40, 60, 4, 10000, []int64{962, 1924, 4808, 9616}},
		{x, 40, 61, 2, 10000, []int64{1924, 4808}},
		{x, 40, 63, 1, 10000, []int64{9616}},
		{x, 0, 60, 4, maxSum, []int64{10000000, 20000000, 50000000, 100000000}},
		{x, 0, 60, 4, 1, []int64{1, 1, 1, 1}},
		{x, 0, 60, 2, 5, []int64{1, 1}},
		{x, impl.MaxRate, 60, 4, maxSum, []int64{8333334, 16666667, 41666667, 83333334}},
		{x, impl.MaxRate, 62, 2, 1, []int64{1, 1}},
		{table(100, 7, 7, 7, 0), 35, 100, 3, 1000, []int64{0, 0, 967}},
		{table(0, 1, 0), 40, 0, 1, 7, []int64{7}},
		{lateTable, impl.MaxRate, 147, 3, maxSum, []int64{0, 0, 83333081}},
		{slowLives, 40, 0, 6, 1000, []int64{193, 241, 321, 481, 0, 0}},
	} {
		if list, code := impl.NaturalPremiums(c.x, c.rate, c.age, c.n, c.amount); !slices.Equal(list, c.want) || code != impl.ErrNone {
			t.Errorf("NaturalPremiums(%v, %d, %d, %d, %d) = %v, %d; want %v", c.x, c.rate, c.age, c.n, c.amount, list, code, c.want)
		}
	}
}

// TestNaturalPremiumsAreThoseOfAllAges compares lists with the prices one by one; without one of these there is no list.
func TestNaturalPremiumsAreThoseOfAllAges(t *testing.T) {
	lists, none := 0, 0
	for _, x := range sampleTables() {
		for _, rate := range []int64{0, 40, 178, impl.MaxRate} {
			for _, age := range []int64{x.First, (x.First + endOf(x)) / 2, endOf(x) - 1} {
				for _, n := range yearsOfKind(impl.AssureTerm, x, age) {
					want, wantCode := []int64{}, int64(impl.ErrNone)
					for now := age; now < age+n; now++ {
						price, code := impl.AssurancePrice(x, rate, impl.AssureTerm, now, 1, 98765)
						want, wantCode = append(want, price), max(wantCode, code)
					}
					if wantCode != impl.ErrNone {
						checkNoPremiums(t, x, rate, age, n, 98765, impl.ErrState)
						none++
						continue
					}
					lists++
					if list, code := impl.NaturalPremiums(x, rate, age, n, 98765); !slices.Equal(list, want) || code != impl.ErrNone {
						t.Errorf("NaturalPremiums(%v, %d, %d, %d, 98765) = %v, %d; want %v", x, rate, age, n, list, code, want)
					}
				}
			}
		}
	}
	if lists == 0 || none == 0 {
		t.Errorf("%d lists and %d errors were tried", lists, none)
	}
}

// TestNaturalPremiumsUpToTheEnd has lists that go up to the last age with D, and one age more; lives are left there in the
// last table only.
func TestNaturalPremiumsUpToTheEnd(t *testing.T) {
	for _, c := range []struct {
		x               impl.LifeTable
		rate, age, last int64
	}{
		{table(60, 100, 90, 72, 36, 0), 40, 60, 63},
		{table(60, 100, 90, 72, 36, 0), 0, 63, 63},
		{table(0, 1, 0), 40, 0, 0},
		{slowLives, 0, 0, 118},
		{slowLives, 0, 60, 118},
		{slowTable(20, 5, 120), 0, 20, 138},
		{longTable, impl.MaxRate, 31, 138},
		{longTable, impl.MaxRate, 137, 138},
	} {
		for n := int64(1); n <= min(impl.MaxYears, impl.MaxAge-c.age); n++ {
			if c.age+n-1 > c.last {
				checkNoPremiums(t, c.x, c.rate, c.age, n, 100, impl.ErrState)
			} else if list, code := impl.NaturalPremiums(c.x, c.rate, c.age, n, 100); int64(len(list)) != n || code != impl.ErrNone {
				t.Errorf("NaturalPremiums(%v, %d, %d, %d, 100) = %v, %d", c.x, c.rate, c.age, n, list, code)
			}
		}
	}
	// The age MaxAge at the end of the last year, and one beyond.
	for _, x := range []impl.LifeTable{longTable, lateTable} {
		for age := x.First; age < impl.MaxAge; age++ {
			if list, code := impl.NaturalPremiums(x, 0, age, impl.MaxAge-age, maxSum); int64(len(list)) != impl.MaxAge-age || code != impl.ErrNone {
				t.Errorf("NaturalPremiums from the age %d to the end = %v, %d", age, list, code)
			}
			checkNoPremiums(t, x, 0, age, impl.MaxAge+1-age, maxSum, impl.ErrRange)
		}
	}
}

func TestAssuranceNumberExamples(t *testing.T) {
	x := table(60, 100, 90, 72, 36, 0)
	for _, c := range []struct {
		x                             impl.LifeTable
		rate, kind, age, n, top, base int64
	}{
		{x, 40, impl.AssureLife, 60, 0, 89034216082, 100000000000},
		{x, 40, impl.AssureTerm, 60, 1, 9615384610, 100000000000},
		{x, 40, impl.AssureEndowment, 60, 1, 96153846100, 100000000000},
		{x, 40, impl.AssurePure, 60, 1, 86538461490, 100000000000},
		{x, 40, impl.AssureTerm, 60, 4, 89034216082, 100000000000},
		{x, 40, impl.AssureEndowment, 60, 4, 89034216082, 100000000000},
		{x, 40, impl.AssurePure, 60, 4, 0, 100000000000},
		{x, 40, impl.AssureEndowment, 62, 1, 64007737704, 66568047264},
		{x, 0, impl.AssureLife, 60, 0, 100000000000, 100000000000},
		{x, 0, impl.AssureTerm, 60, 3, 64000000000, 100000000000},
		{x, 0, impl.AssureEndowment, 60, 3, 100000000000, 100000000000},
		{x, 0, impl.AssurePure, 60, 3, 36000000000, 100000000000},
		{x, 0, impl.AssureEndowment, 63, 87, 36000000000, 36000000000},
		{x, impl.MaxRate, impl.AssureLife, 63, 0, 17361111060, 20833333308},
		{x, impl.MaxRate, impl.AssurePure, 61, 2, 20833333308, 74999999970},
		{table(0, 1, 0), 40, impl.AssureLife, 0, 0, 961538461, 1000000000},
		{table(0, 1, 0), 40, impl.AssureEndowment, 0, impl.MaxYears, 961538461, 1000000000},
		{table(100, 7, 7, 7, 0), 35, impl.AssureTerm, 100, 2, 0, 7000000000},
		{table(100, 7, 7, 7, 0), 35, impl.AssureEndowment, 100, 2, 6534574893, 7000000000},
		{longTable, 0, impl.AssureEndowment, 31, 60, 1000000000000000, 1000000000000000},
		{longTable, 0, impl.AssureLife, 31, 0, 1000000000000000, 1000000000000000},
		{longTable, impl.MaxRate, impl.AssureLife, 31, 0, 0, 1000000000000000},
		{longTable, impl.MaxRate, impl.AssurePure, 31, 107, 1000000, 1000000000000000},
		{longTable, impl.MaxRate, impl.AssurePure, 31, 108, 0, 1000000000000000},
		{longTable, impl.MaxRate, impl.AssureEndowment, 138, 1, 0, 1000000},
		{lateTable, impl.MaxRate, impl.AssureTerm, 149, 1, 109883000000, 131860000000},
	} {
		if top, base, code := impl.AssuranceNumber(c.x, c.rate, c.kind, c.age, c.n); top != c.top || base != c.base || code != impl.ErrNone {
			t.Errorf("AssuranceNumber(%v, %d, %d, %d, %d) = %d, %d, %d; want %d, %d", c.x, c.rate, c.kind, c.age, c.n, top, base, code, c.top, c.base)
		}
	}
}

// checkNoAssurance checks that there is no assurance from an age on, also none for the amount as a price; and for
// AssureTerm that there are no premiums year by year, for AssureEndowment that there are no parts.
func checkNoAssurance(t *testing.T, x impl.LifeTable, rate, kind, age, n, amount, want int64) {
	t.Helper()
	arguments := []any{x, rate, kind, age, n, amount}
	if price, code := impl.AssurancePrice(x, rate, kind, age, n, amount); price != 0 || code != want {
		t.Errorf("AssurancePrice%v = %d, %d; want %d", arguments, price, code, want)
	}
	if level, code := impl.LevelPremium(x, rate, kind, age, n, amount); level != 0 || code != want {
		t.Errorf("LevelPremium%v = %d, %d; want %d", arguments, level, code, want)
	}
	if sum, code := impl.SumFor(x, rate, kind, age, n, amount); sum != 0 || code != want {
		t.Errorf("SumFor%v = %d, %d; want %d", arguments, sum, code, want)
	}
	if kind == impl.AssureTerm {
		checkNoPremiums(t, x, rate, age, n, amount, want)
	}
	if kind == impl.AssureEndowment {
		if term, pure, code := impl.TermPart(x, rate, age, n, amount); term != 0 || pure != 0 || code != want {
			t.Errorf("TermPart%v = %d, %d, %d; want %d", arguments, term, pure, code, want)
		}
	}
}

// checkNoPremiums checks that there are no premiums year by year.
func checkNoPremiums(t *testing.T, x impl.LifeTable, rate, age, n, amount, want int64) {
	t.Helper()
	if list, code := impl.NaturalPremiums(x, rate, age, n, amount); len(list) != 0 || code != want {
		t.Errorf("NaturalPremiums(%v, %d, %d, %d, %d) = %v, %d; want %d", x, rate, age, n, amount, list, code, want)
	}
}

// checkNothingAssured checks besides that there is no fraction, which has no amount.
func checkNothingAssured(t *testing.T, x impl.LifeTable, rate, kind, age, n, amount, want int64) {
	t.Helper()
	checkNoAssurance(t, x, rate, kind, age, n, amount, want)
	if top, base, code := impl.AssuranceNumber(x, rate, kind, age, n); top != 0 || base != 0 || code != want {
		t.Errorf("AssuranceNumber(%v, %d, %d, %d, %d) = %d, %d, %d; want %d", x, rate, kind, age, n, top, base, code, want)
	}
}

// TestWrongArgumentsOfAssurances has one argument that is not in its range, at ages at which D is 0, too.
func TestWrongArgumentsOfAssurances(t *testing.T) {
	for _, x := range append(sampleTables(), longTable) {
		for _, age := range agesToTry(x) {
			for _, k := range kinds {
				// At MaxAge no number of years is left but that of AssureLife: both are wrong for the others.
				n := min(k.kind, 1)
				for _, rate := range noRates {
					checkNothingAssured(t, x, rate, k.kind, age, n, 1000, impl.ErrRange)
				}
				for _, rate := range []int64{0, 40, impl.MaxRate} {
					for _, amount := range noSums {
						checkNoAssurance(t, x, rate, k.kind, age, n, amount, impl.ErrRange)
					}
					for _, wrong := range wrongYearsOfKind(k.kind, age) {
						checkNothingAssured(t, x, rate, k.kind, age, wrong, 1000, impl.ErrRange)
					}
				}
			}
			for _, kind := range noKinds {
				for _, rate := range []int64{0, 40, impl.MaxRate} {
					checkNothingAssured(t, x, rate, kind, age, 0, 1000, impl.ErrRange)
					checkNothingAssured(t, x, rate, kind, age, 1, 1000, impl.ErrRange)
				}
			}
		}
		for _, age := range wrongAges(x) {
			for _, k := range kinds {
				checkNothingAssured(t, x, 40, k.kind, age, min(k.kind, 1), 1000, impl.ErrRange)
				checkNothingAssured(t, x, 40, k.kind, age, 0, 1000, impl.ErrRange)
			}
		}
	}
}

// wrongYearsOfKind are numbers n that a kind or an age does not allow.
func wrongYearsOfKind(kind, age int64) []int64 {
	if kind == impl.AssureLife {
		return append([]int64{1, 2, impl.MaxYears, impl.MaxAge - age + 1, 1 << 32}, noTerms...)
	}
	return append([]int64{0, impl.MaxAge + 1 - age, impl.MaxAge + 2 - age, math.MaxInt64 - age, 1<<32 + 1}, noTerms...)
}

// TestYearsOfAssurances has numbers n at both of their limits, MaxYears and the years up to MaxAge.
func TestYearsOfAssurances(t *testing.T) {
	for _, x := range []impl.LifeTable{slowLives, slowTable(20, 5, 120)} {
		for age := x.First; age < endOf(x); age++ {
			last := min(impl.MaxYears, impl.MaxAge-age)
			for _, k := range kinds[1:] {
				for n := last - 2; n <= last; n++ {
					price, code := impl.AssurancePrice(x, 0, k.kind, age, n, 1)
					if code != impl.ErrNone || price > 1 {
						t.Errorf("AssurancePrice(%v, 0, %s, %d, %d, 1) = %d, %d", x, k.name, age, n, price, code)
					}
				}
				checkNothingAssured(t, x, 0, k.kind, age, last+1, 1, impl.ErrRange)
				checkNothingAssured(t, x, 0, k.kind, age, last+2, 1, impl.ErrRange)
			}
		}
	}
}

// TestNobodyToAssure has ages at which D is 0 as no lives are left, and such at which lives are left.
func TestNobodyToAssure(t *testing.T) {
	check := func(x impl.LifeTable, rate, age int64) {
		t.Helper()
		checkNothingAssured(t, x, rate, impl.AssureLife, age, 0, maxSum, impl.ErrState)
		for _, k := range kinds[1:] {
			if age == impl.MaxAge {
				// No year is left, which is wrong before D is.
				checkNothingAssured(t, x, rate, k.kind, age, 1, 1, impl.ErrRange)
				continue
			}
			checkNothingAssured(t, x, rate, k.kind, age, 1, 1, impl.ErrState)
			checkNothingAssured(t, x, rate, k.kind, age, min(impl.MaxYears, impl.MaxAge-age), maxSum, impl.ErrState)
		}
	}
	for _, x := range sampleTables() {
		for age := endOf(x); age <= impl.MaxAge; age++ {
			for _, rate := range []int64{0, 40, impl.MaxRate} {
				check(x, rate, age)
			}
		}
	}
	for age := int64(139); age < 150; age++ {
		check(longTable, impl.MaxRate, age)
	}
}

// TestNoTableIsTheFirstErrorOfAssurances has other wrong arguments besides tables that are none.
func TestNoTableIsTheFirstErrorOfAssurances(t *testing.T) {
	for name, x := range noTables() {
		t.Run(name, func(t *testing.T) {
			for _, rate := range []int64{0, 40, impl.MaxRate, -1, impl.MaxRate + 1} {
				for _, amount := range []int64{1, maxSum, 0, maxSum + 1} {
					for _, age := range append(wrongAges(x), x.First, 60, 61, 100, 150) {
						for kind := int64(-1); kind <= 4; kind++ {
							for _, n := range []int64{0, 1, impl.MaxYears, -1, impl.MaxYears + 1, math.MaxInt64} {
								checkNothingAssured(t, x, rate, kind, age, n, amount, impl.ErrInvalid)
							}
						}
					}
				}
			}
		})
	}
}

// TestAssurancesOfPartsOfSlices has numbers before and behind the lives of a table.
func TestAssurancesOfPartsOfSlices(t *testing.T) {
	back := []int64{700, 100, 90, 72, 36, 0, 33, 22, 11}
	x := impl.LifeTable{First: 60, Lives: back[1:6]}
	if price, code := impl.AssurancePrice(x, 40, impl.AssureEndowment, 60, 3, 10000); price != 9027 || code != impl.ErrNone {
		t.Errorf("AssurancePrice = %d, %d", price, code)
	}
	for _, k := range kinds {
		n := min(k.kind, 1)
		impl.AssurancePrice(x, 40, k.kind, 60, n, 10000)
		impl.LevelPremium(x, 40, k.kind, 60, n, 10000)
		impl.SumFor(x, 40, k.kind, 60, n, 10000)
		impl.AssuranceNumber(x, 40, k.kind, 60, n)
	}
	impl.TermPart(x, 40, 60, 2, 10000)
	want := []int64{962, 1924, 4808, 9616}
	first, _ := impl.NaturalPremiums(x, 40, 60, 4, 10000)
	second, _ := impl.NaturalPremiums(x, 40, 60, 4, 10000)
	for i := range first {
		first[i] = -9
	}
	third, _ := impl.NaturalPremiums(x, 40, 60, 4, 10000)
	if !slices.Equal(second, want) || !slices.Equal(third, want) {
		t.Errorf("a result of NaturalPremiums shares memory: %v, %v", second, third)
	}
	if !slices.Equal(back, []int64{700, 100, 90, 72, 36, 0, 33, 22, 11}) {
		t.Errorf("an argument is changed: %v", back)
	}
}

func TestAssurancesKeepNothing(t *testing.T) {
	checkKeepsNothing(t, func(x impl.LifeTable, rate int64) int64 {
		result := int64(0)
		for _, k := range kinds {
			level, _ := impl.LevelPremium(x, rate, k.kind, x.First, min(k.kind, 1), 10000)
			result = 31*result + level
		}
		list, _ := impl.NaturalPremiums(x, rate, x.First, 1, 1000)
		for _, price := range list {
			result = 31*result + price
		}
		return result
	})
}
