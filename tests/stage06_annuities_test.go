package tests

import (
	"fmt"
	"math"
	"math/big"
	"math/rand"
	"slices"
	"testing"

	"loop.example/g01025/impl"
)

// The limits of chapter 6 that have no name in the package.
const (
	maxPayment = 1000000
	maxPrice   = 1000000000
)

// Numbers that are not in the ranges of chapter 6.
var (
	noPayments = []int64{0, -1, maxPayment + 1, -maxPayment, math.MinInt64, math.MinInt64 + 1, math.MaxInt64 - 1, math.MaxInt64}
	noPrices   = []int64{0, -1, maxPrice + 1, -maxPrice, math.MinInt64, math.MinInt64 + 1, math.MaxInt64 - 1, math.MaxInt64}
)

// annuities are the functions that price payments by a number n of years, and the numerators of their fractions, found
// from N now and N in n years.
var annuities = []struct {
	name      string
	price     func(x impl.LifeTable, rate, age, amount, n int64) (int64, int64)
	numerator func(now, later int64) int64
}{
	{"LifeAnnuity", func(x impl.LifeTable, rate, age, amount, n int64) (int64, int64) {
		return impl.LifeAnnuity(x, rate, age, amount)
	}, func(now, later int64) int64 { return now }},
	{"TermAnnuity", impl.TermAnnuity, func(now, later int64) int64 { return now - later }},
	{"LateAnnuity", impl.LateAnnuity, func(now, later int64) int64 { return later }},
}

// Tables with long lives: at the rate 200 the discounts come to 0 before the lives of longTable and slowLives do.
var (
	longTable = level(31, impl.MaxLives, 120)
	lateTable = level(100, impl.MaxLives, 51)
	slowLives = slowTable(0, 5, 120)
)

// product multiplies two numbers exactly.
func product(a, b int64) *big.Int { return new(big.Int).Mul(big.NewInt(a), big.NewInt(b)) }

func TestAnnuityExamples(t *testing.T) {
	x := table(60, 100, 90, 72, 36, 0)
	for _, c := range []struct {
		x                      impl.LifeTable
		rate, age, amount, n   int64
		life, term, late, sure int64
	}{
		{x, 40, 60, 1000, 0, 2852, 0, 2852, 2852},
		{x, 40, 60, 1000, 1, 2852, 1000, 1852, 2852},
		{x, 40, 60, 1000, 2, 2852, 1866, 986, 2948},
		{x, 40, 60, 1000, 3, 2852, 2532, 321, 3208},
		// As many payments as there are lives for, and more.
		{x, 40, 60, 1000, 4, 2852, 2852, 0, 3776},
		{x, 40, 60, 1000, 5, 2852, 2852, 0, 4630},
		// The age 150 at the end of the payments.
		{x, 40, 60, 1000, 90, 2852, 2852, 0, 25238},
		{x, 40, 63, 1000, 87, 1000, 1000, 0, 25143},
		// Later ages, up to the last one at which lives are left.
		{x, 40, 61, 1000, 1, 2140, 1000, 1140, 2140},
		{x, 40, 62, 1000, 1, 1481, 1000, 481, 1481},
		{x, 40, 63, 1000, 0, 1000, 0, 1000, 1000},
		{x, 40, 63, 1000, 1, 1000, 1000, 0, 1000},
		// The least and the greatest amount.
		{x, 40, 60, 1, 0, 3, 0, 3, 3},
		{x, 40, 60, 1, 1, 3, 1, 2, 3},
		{x, 40, 60, 1, 2, 3, 2, 1, 3},
		{x, 40, 60, maxPayment, 2, 2851104, 1865385, 985720, 2947259},
		{x, 40, 60, maxPayment, 4, 2851104, 2851104, 0, 3775092},
		// Prices that are whole, some of them, and none of them.
		{x, 0, 60, 1000, 2, 2980, 1900, 1080, 3080},
		{x, 0, 60, 50, 2, 149, 95, 54, 154},
		{x, 0, 60, 51, 2, 152, 97, 56, 158},
		{x, 0, 60, 100, 3, 298, 262, 36, 336},
		// The rates at the limits.
		{x, 0, 60, maxPayment, 90, 2980000, 2980000, 0, 90000000},
		{x, 200, 60, 1000, 2, 2459, 1750, 709, 2543},
		{x, 200, 62, maxPayment, 1, 1416667, 1000000, 416667, 1416667},
		{x, 200, 60, 1, 3, 3, 3, 1, 4},
		{longTable, 1, 31, maxPayment, 60, 112251546, 58265439, 53986107, 112251546},
		// Lives of one year, and the first age 0 with n at its limit.
		{table(0, 1, 0), 0, 0, maxPayment, 120, 1000000, 1000000, 0, 120000000},
		{table(0, 1, 0), 200, 0, 1, 120, 1, 1, 0, 6},
		{table(0, impl.MaxLives, 0), 40, 0, 1000, 0, 1000, 0, 1000, 1000},
		{table(0, impl.MaxLives, 0), 40, 0, 1000, 1, 1000, 1000, 0, 1000},
		{slowLives, 40, 0, 1000, 60, 7076, 6631, 446, 23975},
		{slowLives, 40, 0, 1000, 120, 7076, 7076, 0, 25766},
		{slowLives, 0, 30, maxPayment, 100, 89000000, 89000000, 0, 100000000},
		{slowLives, 0, 30, maxPayment, 120, 89000000, 89000000, 0, 120000000},
		{slowLives, 40, 117, maxPayment, 1, 1961539, 1000000, 961539, 1961539},
		{slowLives, 40, 118, maxPayment, 32, 1000000, 1000000, 0, 18588494},
		// The greatest prices; N and an amount have a product that no int64 holds.
		{longTable, 0, 31, maxPayment, 0, 119000000, 0, 119000000, 119000000},
		{longTable, 0, 31, maxPayment, 118, 119000000, 118000000, 1000000, 119000000},
		{longTable, 0, 31, maxPayment, 119, 119000000, 119000000, 0, 119000000},
		{longTable, 0, 31, 1, 60, 119, 60, 59, 119},
		{longTable, 0, 149, maxPayment, 1, 1000000, 1000000, 0, 1000000},
		// The first age 100, and a table that ends at MaxAge.
		{table(100, 7, 7, 7, 0), 35, 100, 1000, 2, 2900, 1967, 934, 2901},
		{table(100, 7, 7, 7, 0), 35, 102, 1000, 48, 1000, 1000, 0, 23900},
		{lateTable, 200, 100, maxPayment, 50, 5999341, 5999341, 0, 5999341},
		{lateTable, 200, 120, 777, 10, 4643, 3910, 734, 4644},
		{lateTable, 200, 149, maxPayment, 1, 1000000, 1000000, 0, 1000000},
		// The least discounts, and payments for which the discount is 0.
		{longTable, 200, 31, maxPayment, 100, 6000000, 6000000, 1, 6000001},
		{longTable, 200, 31, 1, 107, 6, 6, 1, 7},
		{longTable, 200, 31, maxPayment, 119, 6000000, 6000000, 0, 6000000},
		{longTable, 200, 137, 1000, 1, 1500, 1000, 500, 1500},
		{longTable, 200, 138, maxPayment, 1, 1000000, 1000000, 0, 1000000},
		{longTable, 200, 138, 1, 12, 1, 1, 0, 6},
		{slowLives, 200, 100, maxPayment, 7, 3900000, 3800000, 100000, 4425511},
	} {
		name := fmt.Sprintf("(%v, %d, %d, %d, %d)", c.x, c.rate, c.age, c.amount, c.n)
		for i, want := range []int64{c.life, c.term, c.late} {
			if n, code := annuities[i].price(c.x, c.rate, c.age, c.amount, c.n); n != want || code != impl.ErrNone {
				t.Errorf("%s%s = %d, %d; want %d", annuities[i].name, name, n, code, want)
			}
		}
		if n, code := impl.SureAnnuity(c.x, c.rate, c.age, c.amount, c.n); n != c.sure || code != impl.ErrNone {
			t.Errorf("SureAnnuity%s = %d, %d; want %d", name, n, code, c.sure)
		}
	}
}

// numbersOfYears are numbers n that an age allows: about the least and the greatest ones, and about the end of a table.
func numbersOfYears(x impl.LifeTable, age int64) []int64 {
	left := endOf(x) - age
	list := []int64{}
	for _, n := range []int64{0, 1, 2, left / 2, left - 1, left, left + 1, impl.MaxAge - age, impl.MaxYears} {
		if n >= 0 && n <= impl.MaxYears && age+n <= impl.MaxAge {
			list = append(list, n)
		}
	}
	slices.Sort(list)
	return slices.Compact(list)
}

// checkPrices compares the prices of annuities from an age on with fractions of columns that are found by hand.
func checkPrices(t *testing.T, x impl.LifeTable, rate, age, amount, n int64, columns []impl.Columns, discounts []*big.Int) {
	t.Helper()
	now, later := columns[age-x.First], columns[age+n-x.First]
	prices := []int64{}
	for _, a := range annuities {
		price, code := a.price(x, rate, age, amount, n)
		if !isUp(price, product(amount, a.numerator(now.N, later.N)), big.NewInt(now.D)) || code != impl.ErrNone {
			t.Errorf("%s(%v, %d, %d, %d, %d) = %d, %d; N is %d and %d, D %d", a.name, x, rate, age, amount, n, price, code, now.N, later.N, now.D)
		}
		prices = append(prices, price)
	}
	sure, code := impl.SureAnnuity(x, rate, age, amount, n)
	certain := new(big.Int).Mul(big.NewInt(amount), sumOfBig(discounts[:n]))
	if !isUp(sure-prices[2], certain, big.NewInt(impl.One)) || code != impl.ErrNone {
		t.Errorf("SureAnnuity(%v, %d, %d, %d, %d) = %d, %d; LateAnnuity is %d", x, rate, age, amount, n, sure, code, prices[2])
	}
}

func TestAnnuitiesByHand(t *testing.T) {
	random := rand.New(rand.NewSource(61))
	for _, x := range sampleTables() {
		for _, rate := range []int64{0, 1, 40, 1 + random.Int63n(impl.MaxRate), impl.MaxRate} {
			discounts := discountsByHand(rate)
			columns := columnsByHand(x, discounts)
			for age := x.First; age < endOf(x); age++ {
				for _, n := range numbersOfYears(x, age) {
					if columns[age-x.First].D == 0 {
						checkNoAnnuity(t, x, rate, age, 1, n, impl.ErrState)
						continue
					}
					amount := []int64{1, 1 + random.Int63n(maxPayment), maxPayment}[random.Intn(3)]
					checkPrices(t, x, rate, age, amount, n, columns, discounts)
				}
			}
		}
	}
}

// TestAnnuitiesAtAllRates has the ages about which the discounts come to 0.
func TestAnnuitiesAtAllRates(t *testing.T) {
	for rate := range int64(impl.MaxRate + 1) {
		discounts := discountsByHand(rate)
		columns := columnsByHand(longTable, discounts)
		for age := int64(136); age < 150; age++ {
			for _, n := range []int64{0, 1, 150 - age} {
				if columns[age-31].D == 0 {
					checkNoAnnuity(t, longTable, rate, age, 100, n, impl.ErrState)
				} else {
					checkPrices(t, longTable, rate, age, 100, n, columns, discounts)
				}
			}
		}
	}
}

// byChance calls try for all sample tables, with rates, ages at which lives are left, and amounts up to a limit that are
// made by chance.
func byChance(seed int64, limit int64, try func(random *rand.Rand, x impl.LifeTable, rate, age, amount int64)) {
	random := rand.New(rand.NewSource(seed))
	for _, x := range sampleTables() {
		for range 60 {
			rate, amount := random.Int63n(impl.MaxRate+1), 1+random.Int63n(limit)
			try(random, x, rate, x.First+random.Int63n(endOf(x)-x.First), amount)
		}
	}
}

// TestPartsOfAnnuities checks promise 6: payments for some years and those behind them cost together what payments for
// life cost, but for a cent.
func TestPartsOfAnnuities(t *testing.T) {
	found := map[int64]int{}
	byChance(62, maxPayment, func(random *rand.Rand, x impl.LifeTable, rate, age, amount int64) {
		for _, n := range append(numbersOfYears(x, age), random.Int63n(min(impl.MaxYears, impl.MaxAge-age)+1)) {
			life, code := impl.LifeAnnuity(x, rate, age, amount)
			term, termCode := impl.TermAnnuity(x, rate, age, amount, n)
			late, lateCode := impl.LateAnnuity(x, rate, age, amount, n)
			more := term + late - life
			if more < 0 || more > 1 || termCode != code || lateCode != code {
				t.Errorf("(%v, %d, %d, %d, %d): %d for life, %d for the first payments, %d for the later ones; codes %d, %d, %d", x, rate, age, amount, n, life, term, late, code, termCode, lateCode)
			}
			if n == 0 && (term != 0 || late != life) || n >= endOf(x)-age && (term != life || late != 0) {
				t.Errorf("(%v, %d, %d, %d, %d): %d for life, %d for the first payments, %d for the later ones", x, rate, age, amount, n, life, term, late)
			}
			found[more]++
		}
	})
	if found[0] == 0 || found[1] == 0 {
		t.Errorf("differences that were tried: %v", found)
	}
}

// TestPaymentsCostMoreOneByOne goes through all numbers of payments: with one more of them, the later ones cost less.
func TestPaymentsCostMoreOneByOne(t *testing.T) {
	for _, x := range []impl.LifeTable{table(60, 100, 90, 72, 36, 0), slowLives, longTable, lateTable, slowTable(30, 60, 120)} {
		for _, rate := range []int64{0, 35, impl.MaxRate} {
			terms, lates := []int64{}, []int64{}
			for n := int64(0); n <= min(impl.MaxYears, impl.MaxAge-x.First); n++ {
				term, _ := impl.TermAnnuity(x, rate, x.First, 1000, n)
				late, _ := impl.LateAnnuity(x, rate, x.First, 1000, n)
				// Payments that are made in any case cost no less than those that need somebody alive.
				if sure, _ := impl.SureAnnuity(x, rate, x.First, 1000, n); sure < term+late {
					t.Errorf("(%v, %d, %d): SureAnnuity is %d for %d payments; TermAnnuity is %d, LateAnnuity %d", x, rate, x.First, sure, n, term, late)
				}
				terms, lates = append(terms, term), append(lates, -late)
			}
			if !slices.IsSorted(terms) || !slices.IsSorted(lates) || terms[0] != 0 || terms[1] != 1000 {
				t.Errorf("%v at the rate %d: %v, %v", x, rate, terms, lates)
			}
		}
	}
}

func TestAmountForExamples(t *testing.T) {
	x := table(60, 100, 90, 72, 36, 0)
	for _, c := range []struct {
		x                      impl.LifeTable
		rate, age, price, want int64
	}{
		{x, 40, 60, 2851, 999},
		{x, 40, 60, 2852, 1000},
		{x, 40, 60, 1000, 350},
		// Prices that are less than one payment costs.
		{x, 40, 60, 1, 0},
		{x, 40, 60, 2, 0},
		{x, 40, 60, 3, 1},
		// Prices that are just enough, and one less.
		{x, 0, 60, 149, 50},
		{x, 0, 60, 148, 49},
		{x, 0, 60, 298, 100},
		{x, 0, 60, 297, 99},
		// Only one payment: the amount is the price, also beyond the limit of amounts.
		{x, 40, 63, 1, 1},
		{x, 40, 63, maxPayment, maxPayment},
		{x, 40, 63, maxPayment + 1, maxPayment + 1},
		{x, 40, 63, maxPrice, maxPrice},
		{table(0, impl.MaxLives, 0), 40, 0, maxPrice, maxPrice},
		{table(0, 1, 0), 40, 0, 1, 1},
		// The greatest price, and one less.
		{x, 40, 60, maxPrice, 350741354},
		{x, 40, 60, maxPrice - 1, 350741354},
		{x, 0, 60, maxPrice, 335570469},
		{x, 200, 60, maxPrice, 406779661},
		// Products that no int64 holds.
		{longTable, 0, 31, 1, 0},
		{longTable, 0, 31, 118, 0},
		{longTable, 0, 31, 119, 1},
		{longTable, 0, 31, 120, 1},
		{longTable, 0, 31, maxPrice, 8403361},
		{lateTable, 200, 100, 5, 0},
		{lateTable, 200, 100, 6, 1},
		{lateTable, 200, 100, maxPrice, 166684986},
		// The least discounts.
		{longTable, 200, 137, 2, 1},
		{longTable, 200, 137, 3, 2},
		{longTable, 200, 137, maxPrice, 666666666},
		{longTable, 200, 138, maxPrice, maxPrice},
		{slowLives, 40, 117, 1, 0},
		{slowLives, 40, 117, maxPrice, 509803927},
	} {
		if n, code := impl.AmountFor(c.x, c.rate, c.age, c.price); n != c.want || code != impl.ErrNone {
			t.Errorf("AmountFor(%v, %d, %d, %d) = %d, %d; want %d", c.x, c.rate, c.age, c.price, n, code, c.want)
		}
	}
}

// checkAmount checks that a price is enough for an amount, and not for one more.
func checkAmount(t *testing.T, x impl.LifeTable, rate, age, price int64, at impl.Columns) {
	t.Helper()
	n, code := impl.AmountFor(x, rate, age, price)
	worth := product(price, at.D)
	if n < 0 || product(n, at.N).Cmp(worth) > 0 || product(n+1, at.N).Cmp(worth) <= 0 || code != impl.ErrNone {
		t.Errorf("AmountFor(%v, %d, %d, %d) = %d, %d; D is %d, N %d", x, rate, age, price, n, code, at.D, at.N)
	}
}

func TestAmountForByHand(t *testing.T) {
	random := rand.New(rand.NewSource(63))
	for _, x := range sampleTables() {
		for _, rate := range []int64{0, 1, 40, random.Int63n(impl.MaxRate + 1), impl.MaxRate} {
			columns := columnsByHand(x, discountsByHand(rate))
			for age := x.First; age < endOf(x); age++ {
				at := columns[age-x.First]
				for _, price := range []int64{1, 2, 1000, 1 + random.Int63n(maxPrice), maxPrice - 1, maxPrice} {
					if at.D == 0 {
						checkNoAmount(t, x, rate, age, price, impl.ErrState)
						continue
					}
					checkAmount(t, x, rate, age, price, at)
				}
			}
		}
	}
}

// TestAmountsArePaidFor checks that the price of an annuity is the least one that is enough for its amount.
func TestAmountsArePaidFor(t *testing.T) {
	byChance(64, maxPayment, func(_ *rand.Rand, x impl.LifeTable, rate, age, amount int64) {
		price, code := impl.LifeAnnuity(x, rate, age, amount)
		if code != impl.ErrNone {
			return
		}
		if n, _ := impl.AmountFor(x, rate, age, price); n < amount {
			t.Errorf("(%v, %d, %d): %d costs %d, which is enough for %d only", x, rate, age, amount, price, n)
		}
		if n, _ := impl.AmountFor(x, rate, age, price-1); n >= amount {
			t.Errorf("(%v, %d, %d): %d costs %d, but one less is enough for %d", x, rate, age, amount, price, n)
		}
	})
}

func TestMeanPaymentsExamples(t *testing.T) {
	x := table(60, 100, 90, 72, 36, 0)
	for _, c := range []struct {
		x         impl.LifeTable
		age, n, d int64
	}{
		{x, 60, 149, 50},
		{x, 61, 11, 5},
		{x, 62, 3, 2},
		// The last age at which lives are left.
		{x, 63, 1, 1},
		{table(0, 1, 0), 0, 1, 1},
		{table(0, impl.MaxLives, 0), 0, 1, 1},
		{table(100, 7, 7, 7, 0), 100, 3, 1},
		{table(100, 7, 7, 7, 0), 102, 1, 1},
		{table(0, impl.MaxLives, impl.MaxLives-1, 0), 0, 2*impl.MaxLives - 1, impl.MaxLives},
		{table(0, impl.MaxLives, impl.MaxLives/2, 0), 0, 3, 2},
		{longTable, 31, 119, 1},
		{longTable, 148, 2, 1},
		{longTable, 149, 1, 1},
		{slowLives, 0, 129, 5},
		{slowLives, 1, 31, 1},
		{slowLives, 118, 1, 1},
	} {
		if n, d, code := impl.MeanPayments(c.x, c.age); n != c.n || d != c.d || code != impl.ErrNone {
			t.Errorf("MeanPayments(%v, %d) = %d / %d, %d; want %d / %d", c.x, c.age, n, d, code, c.n, c.d)
		}
	}
}

func TestMeanPaymentsByHand(t *testing.T) {
	for _, x := range sampleTables() {
		for age := x.First; age < endOf(x); age++ {
			sum := int64(0)
			for later := age; later < endOf(x); later++ {
				sum += leftAt(x, later)
			}
			n, d, code := impl.MeanPayments(x, age)
			checkFraction(t, fmt.Sprintf("MeanPayments(%v, %d)", x, age), n, d, code, sum, leftAt(x, age))
		}
	}
}

func TestAnnuityPricesExamples(t *testing.T) {
	for _, c := range []struct {
		x            impl.LifeTable
		rate, amount int64
		want         []int64
	}{
		{table(60, 100, 90, 72, 36, 0), 40, 1000, []int64{2852, 2140, 1481, 1000}},
		{table(60, 100, 90, 72, 36, 0), 0, 1, []int64{3, 3, 2, 1}},
		{table(60, 100, 90, 72, 36, 0), impl.MaxRate, maxPayment, []int64{2458334, 1944445, 1416667, 1000000}},
		{table(100, 7, 7, 7, 0), 35, 1000, []int64{2900, 1967, 1000}},
		// Lives that end after one year.
		{table(0, 1, 0), 40, 7, []int64{7}},
		{table(0, impl.MaxLives, 0), impl.MaxRate, maxPayment, []int64{1000000}},
		{table(100, 1, 0), 0, 1, []int64{1}},
	} {
		if list, code := impl.AnnuityPrices(c.x, c.rate, c.amount); !slices.Equal(list, c.want) || code != impl.ErrNone {
			t.Errorf("AnnuityPrices(%v, %d, %d) = %v, %d; want %v", c.x, c.rate, c.amount, list, code, c.want)
		}
	}
}

// TestAnnuityPricesAreThoseOfAllAges compares lists with the prices one by one; without one of these there is no list.
func TestAnnuityPricesAreThoseOfAllAges(t *testing.T) {
	lists, none := 0, 0
	for _, x := range sampleTables() {
		for _, rate := range []int64{0, 1, 40, 174, 175, 179, 180, 199, impl.MaxRate} {
			for _, amount := range []int64{1, 999, maxPayment} {
				want, wantCode := []int64{}, int64(impl.ErrNone)
				for age := x.First; age < endOf(x); age++ {
					price, code := impl.LifeAnnuity(x, rate, age, amount)
					want, wantCode = append(want, price), max(wantCode, code)
				}
				if wantCode != impl.ErrNone {
					checkNoPrices(t, x, rate, amount, impl.ErrState)
					none++
					continue
				}
				lists++
				if list, code := impl.AnnuityPrices(x, rate, amount); !slices.Equal(list, want) || code != impl.ErrNone {
					t.Errorf("AnnuityPrices(%v, %d, %d) = %v, %d; want %v", x, rate, amount, list, code, want)
				}
			}
		}
	}
	if lists == 0 || none == 0 {
		t.Errorf("%d lists and %d errors were tried", lists, none)
	}
}

// TestAnnuityPricesWithoutDiscounts has tables that lose their discounts just at, or just behind, the last age with lives.
func TestAnnuityPricesWithoutDiscounts(t *testing.T) {
	// At the rate 200 the discount is 1 after 107 years, and 0 after 108.
	for n := 100; n <= 120; n++ {
		for _, lives := range []int64{1, 500, impl.MaxLives} {
			x := level(9, lives, n)
			if n > 109 {
				checkNoPrices(t, x, impl.MaxRate, 1000, impl.ErrState)
			} else if list, code := impl.AnnuityPrices(x, impl.MaxRate, 1000); len(list) != n-1 || list[n-2] != 1000 || code != impl.ErrNone {
				t.Errorf("AnnuityPrices for %d numbers = %v, %d", n, list, code)
			}
			if list, code := impl.AnnuityPrices(x, 174, 1000); len(list) != n-1 || code != impl.ErrNone {
				t.Errorf("AnnuityPrices for %d numbers at the rate 174 = %v, %d", n, list, code)
			}
		}
	}
}

// checkNoAnnuity checks that there are no prices of annuities from an age on: of the one for life only if n is 0.
func checkNoAnnuity(t *testing.T, x impl.LifeTable, rate, age, amount, n, want int64) {
	t.Helper()
	for _, a := range annuities {
		if a.name == "LifeAnnuity" && n != 0 {
			continue
		}
		if price, code := a.price(x, rate, age, amount, n); price != 0 || code != want {
			t.Errorf("%s(%v, %d, %d, %d, %d) = %d, %d; want %d", a.name, x, rate, age, amount, n, price, code, want)
		}
	}
	if price, code := impl.SureAnnuity(x, rate, age, amount, n); price != 0 || code != want {
		t.Errorf("SureAnnuity(%v, %d, %d, %d, %d) = %d, %d; want %d", x, rate, age, amount, n, price, code, want)
	}
}

// checkNoAmount checks that there is no amount for a price.
func checkNoAmount(t *testing.T, x impl.LifeTable, rate, age, price, want int64) {
	t.Helper()
	if n, code := impl.AmountFor(x, rate, age, price); n != 0 || code != want {
		t.Errorf("AmountFor(%v, %d, %d, %d) = %d, %d; want %d", x, rate, age, price, n, code, want)
	}
}

// checkNoMean checks that there is no mean number of payments from an age on.
func checkNoMean(t *testing.T, x impl.LifeTable, age, want int64) {
	t.Helper()
	if n, d, code := impl.MeanPayments(x, age); n != 0 || d != 0 || code != want {
		t.Errorf("MeanPayments(%v, %d) = %d, %d, %d; want %d", x, age, n, d, code, want)
	}
}

// checkNoPrices checks that there is no list of prices.
func checkNoPrices(t *testing.T, x impl.LifeTable, rate, amount, want int64) {
	t.Helper()
	if list, code := impl.AnnuityPrices(x, rate, amount); len(list) != 0 || code != want {
		t.Errorf("AnnuityPrices(%v, %d, %d) = %v, %d; want %d", x, rate, amount, list, code, want)
	}
}

// agesToTry are ages of a table at the beginning, about the end, and at the limit: with D, and with D 0.
func agesToTry(x impl.LifeTable) []int64 {
	return []int64{x.First, endOf(x) - 1, endOf(x), min(endOf(x)+1, impl.MaxAge), impl.MaxAge}
}

// TestWrongArgumentsOfAnnuities has one argument that is not in its range, at ages at which D is 0, too.
func TestWrongArgumentsOfAnnuities(t *testing.T) {
	for _, x := range append(sampleTables(), longTable) {
		for _, age := range agesToTry(x) {
			for _, rate := range noRates {
				checkNoAnnuity(t, x, rate, age, 1000, 0, impl.ErrRange)
				checkNoAmount(t, x, rate, age, 1000, impl.ErrRange)
				checkNoPrices(t, x, rate, 1000, impl.ErrRange)
			}
			for _, rate := range []int64{0, 40, impl.MaxRate} {
				for _, amount := range noPayments {
					checkNoAnnuity(t, x, rate, age, amount, 0, impl.ErrRange)
					checkNoPrices(t, x, rate, amount, impl.ErrRange)
				}
				for _, n := range append(noTerms, impl.MaxAge+1-age, impl.MaxAge+2-age, math.MaxInt64-age) {
					checkNoAnnuity(t, x, rate, age, 1000, n, impl.ErrRange)
				}
				for _, price := range noPrices {
					checkNoAmount(t, x, rate, age, price, impl.ErrRange)
				}
			}
		}
		for _, age := range wrongAges(x) {
			checkNoAnnuity(t, x, 40, age, 1000, 0, impl.ErrRange)
			checkNoAnnuity(t, x, 40, age, 1000, 1, impl.ErrRange)
			checkNoAmount(t, x, 40, age, 1000, impl.ErrRange)
			checkNoMean(t, x, age, impl.ErrRange)
		}
	}
}

// TestYearsOfAnnuities has numbers n at both of their limits, MaxYears and the years up to MaxAge.
func TestYearsOfAnnuities(t *testing.T) {
	for _, x := range []impl.LifeTable{slowLives, slowTable(20, 5, 120)} {
		for age := x.First; age < endOf(x); age++ {
			last := min(impl.MaxYears, impl.MaxAge-age)
			for n := last - 2; n <= last; n++ {
				price, code := impl.LateAnnuity(x, 0, age, 1, n)
				if code != impl.ErrNone || price > 1 {
					t.Errorf("LateAnnuity(%v, 0, %d, 1, %d) = %d, %d", x, age, n, price, code)
				}
			}
			checkNoAnnuity(t, x, 0, age, 1, last+1, impl.ErrRange)
			checkNoAnnuity(t, x, 0, age, 1, last+2, impl.ErrRange)
		}
	}
}

// TestNothingLeftToPayFor has ages at which D is 0 as no lives are left, and such at which lives are left.
func TestNothingLeftToPayFor(t *testing.T) {
	for _, x := range sampleTables() {
		for age := endOf(x); age <= impl.MaxAge; age++ {
			for _, rate := range []int64{0, 40, impl.MaxRate} {
				checkNoAnnuity(t, x, rate, age, 1, 0, impl.ErrState)
				checkNoAnnuity(t, x, rate, age, maxPayment, min(impl.MaxYears, impl.MaxAge-age), impl.ErrState)
				checkNoAmount(t, x, rate, age, 1, impl.ErrState)
				checkNoAmount(t, x, rate, age, maxPrice, impl.ErrState)
			}
			checkNoMean(t, x, age, impl.ErrState)
		}
	}
	for age := int64(139); age < 150; age++ {
		checkNoAnnuity(t, longTable, impl.MaxRate, age, 1000, 0, impl.ErrState)
		checkNoAnnuity(t, longTable, impl.MaxRate, age, 1000, 1, impl.ErrState)
		checkNoAmount(t, longTable, impl.MaxRate, age, 1000, impl.ErrState)
		// Payments are expected there all the same.
		if n, d, code := impl.MeanPayments(longTable, age); n != 150-age || d != 1 || code != impl.ErrNone {
			t.Errorf("MeanPayments(%d) = %d, %d, %d", age, n, d, code)
		}
	}
	checkNoPrices(t, longTable, impl.MaxRate, 1000, impl.ErrState)
}

// TestNoTableIsTheFirstErrorOfAnnuities has other wrong arguments besides tables that are none.
func TestNoTableIsTheFirstErrorOfAnnuities(t *testing.T) {
	for name, x := range noTables() {
		t.Run(name, func(t *testing.T) {
			for _, rate := range []int64{0, 40, impl.MaxRate, -1, impl.MaxRate + 1} {
				for _, amount := range []int64{1, maxPayment, maxPrice, 0, -1, maxPrice + 1} {
					for _, age := range append(wrongAges(x), x.First, 0, 60, 61, 62, 100, 149, 150) {
						for _, n := range []int64{0, 1, impl.MaxYears, -1, impl.MaxYears + 1, math.MinInt64, math.MaxInt64} {
							checkNoAnnuity(t, x, rate, age, amount, n, impl.ErrInvalid)
						}
						checkNoAmount(t, x, rate, age, amount, impl.ErrInvalid)
						checkNoMean(t, x, age, impl.ErrInvalid)
					}
					checkNoPrices(t, x, rate, amount, impl.ErrInvalid)
				}
			}
		})
	}
}

// TestAnnuitiesOfPartsOfSlices has numbers before and behind the lives of a table.
func TestAnnuitiesOfPartsOfSlices(t *testing.T) {
	back := []int64{700, 100, 90, 72, 36, 0, 33, 22, 11}
	x := impl.LifeTable{First: 60, Lives: back[1:6]}
	if n, code := impl.LateAnnuity(x, 40, 60, 1000, 2); n != 986 || code != impl.ErrNone {
		t.Errorf("LateAnnuity = %d, %d", n, code)
	}
	impl.LifeAnnuity(x, 40, 60, 1000)
	impl.TermAnnuity(x, 40, 60, 1000, 2)
	impl.SureAnnuity(x, 40, 60, 1000, 2)
	impl.AmountFor(x, 40, 60, 1000)
	impl.MeanPayments(x, 60)
	want := []int64{2852, 2140, 1481, 1000}
	first, _ := impl.AnnuityPrices(x, 40, 1000)
	second, _ := impl.AnnuityPrices(x, 40, 1000)
	for i := range first {
		first[i] = -9
	}
	third, _ := impl.AnnuityPrices(x, 40, 1000)
	if !slices.Equal(second, want) || !slices.Equal(third, want) {
		t.Errorf("a result of AnnuityPrices shares memory: %v, %v", second, third)
	}
	if !slices.Equal(back, []int64{700, 100, 90, 72, 36, 0, 33, 22, 11}) {
		t.Errorf("an argument is changed: %v", back)
	}
}

func TestAnnuitiesKeepNothing(t *testing.T) {
	checkKeepsNothing(t, func(x impl.LifeTable, rate int64) int64 {
		result, _ := impl.SureAnnuity(x, rate, x.First, 1000, 1)
		list, _ := impl.AnnuityPrices(x, rate, 1000)
		for _, price := range list {
			result = 31*result + price
		}
		return result
	})
}
