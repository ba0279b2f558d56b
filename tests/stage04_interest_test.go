package tests

import (
	"fmt"
	"math"
	"math/big"
	"math/rand"
	"slices"
	"sync"
	"testing"

	"loop.example/g01025/impl"
)

// The limits of chapter 4 that have no name in the package.
const (
	maxAmount    = 1000000000
	maxLoan      = 100000000
	maxLoanYears = 60
)

// Numbers that are not in the ranges of chapter 4.
var (
	noRates     = []int64{-1, impl.MaxRate + 1, -1000, -1001, 1000, math.MinInt64, math.MinInt64 + 1, math.MaxInt64 - 1, math.MaxInt64}
	noTerms     = []int64{-1, impl.MaxYears + 1, math.MinInt64, math.MinInt64 + 1, math.MaxInt64 - 1, math.MaxInt64}
	noAmounts   = []int64{-1, maxAmount + 1, math.MinInt64, math.MinInt64 + 1, math.MaxInt64 - 1, math.MaxInt64}
	noLoans     = []int64{0, -1, maxLoan + 1, maxAmount, math.MinInt64, math.MinInt64 + 1, math.MaxInt64 - 1, math.MaxInt64}
	noLoanYears = []int64{0, -1, maxLoanYears + 1, impl.MaxYears, math.MinInt64, math.MinInt64 + 1, math.MaxInt64 - 1, math.MaxInt64}
)

// timesDown returns n * a / b, rounded down, for numbers that are not negative.
func timesDown(n *big.Int, a, b int64) *big.Int {
	product := new(big.Int).Mul(n, big.NewInt(a))
	return product.Div(product, big.NewInt(b))
}

// discountsByHand returns the discounts of a rate after 0 to MaxYears years.
func discountsByHand(rate int64) []*big.Int {
	list := []*big.Int{big.NewInt(1000000000)}
	for k := range impl.MaxYears {
		list = append(list, timesDown(list[k], 1000, 1000+rate))
	}
	return list
}

// growthByHand returns what an amount is with interest after 0 to MaxYears years.
func growthByHand(amount, rate int64) []*big.Int {
	list := []*big.Int{big.NewInt(amount)}
	for k := range impl.MaxYears {
		list = append(list, new(big.Int).Add(list[k], timesDown(list[k], rate, 1000)))
	}
	return list
}

// sumOfBig adds up a list.
func sumOfBig(list []*big.Int) *big.Int {
	sum := new(big.Int)
	for _, n := range list {
		sum.Add(sum, n)
	}
	return sum
}

// isUp reports whether n is above / below, rounded up.
func isUp(n int64, above, below *big.Int) bool {
	this := new(big.Int).Mul(big.NewInt(n), below)
	before := new(big.Int).Mul(big.NewInt(n-1), below)
	return this.Cmp(above) >= 0 && before.Cmp(above) < 0
}

func TestInterestConstants(t *testing.T) {
	if impl.One != 1000000000 || impl.MaxRate != 200 || impl.MaxYears != 120 {
		t.Errorf("One = %d, MaxRate = %d, MaxYears = %d", int64(impl.One), int64(impl.MaxRate), int64(impl.MaxYears))
	}
}

func TestDiscountExamples(t *testing.T) {
	for _, c := range []struct{ rate, years, want int64 }{
		{40, 0, 1000000000},
		{40, 1, 961538461},
		// Rounded down in each year, and not once.
		{40, 2, 924556212},
		{40, 3, 888996357},
		{25, 10, 781198398},
		{35, 60, 126934292},
		{100, 120, 10781},
		// The rates and the years at the limits.
		{0, 0, 1000000000},
		{0, 1, 1000000000},
		{0, 120, 1000000000},
		{1, 1, 999000999},
		{1, 120, 886973567},
		{200, 0, 1000000000},
		{200, 1, 833333333},
		{200, 2, 694444444},
		{200, 100, 10},
		{200, 107, 1},
		{200, 108, 0},
		{200, 120, 0},
	} {
		if n, code := impl.DiscountOf(c.rate, c.years); n != c.want || code != impl.ErrNone {
			t.Errorf("DiscountOf(%d, %d) = %d, %d; want %d", c.rate, c.years, n, code, c.want)
		}
	}
}

func TestDiscountsByHand(t *testing.T) {
	for rate := range int64(impl.MaxRate + 1) {
		for years, want := range discountsByHand(rate) {
			if n, code := impl.DiscountOf(rate, int64(years)); n != want.Int64() || code != impl.ErrNone {
				t.Errorf("DiscountOf(%d, %d) = %d, %d; want %d", rate, years, n, code, want)
			}
		}
	}
}

// TestDiscountsFall checks that discounts fall from year to year, as long as something is left, and from rate to rate.
func TestDiscountsFall(t *testing.T) {
	for rate := range int64(impl.MaxRate + 1) {
		before, _ := impl.DiscountOf(rate, 0)
		for years := int64(1); years <= impl.MaxYears; years++ {
			n, _ := impl.DiscountOf(rate, years)
			falls := n < before
			if rate == 0 || before == 0 {
				falls = n == before
			}
			if !falls || n < 0 {
				t.Errorf("rate %d: the discounts after %d and %d years are %d and %d", rate, years-1, years, before, n)
			}
			if higher, code := impl.DiscountOf(rate+1, years); code == impl.ErrNone && higher > n {
				t.Errorf("after %d years the discount of the rate %d is %d, and that of the next rate %d", years, rate, n, higher)
			}
			before = n
		}
	}
}

func TestDiscountErrors(t *testing.T) {
	check := func(rate, years int64) {
		t.Helper()
		if n, code := impl.DiscountOf(rate, years); n != 0 || code != impl.ErrRange {
			t.Errorf("DiscountOf(%d, %d) = %d, %d", rate, years, n, code)
		}
		if n, code := impl.CertainAnnuity(rate, years); n != 0 || code != impl.ErrRange {
			t.Errorf("CertainAnnuity(%d, %d) = %d, %d", rate, years, n, code)
		}
	}
	for _, rate := range noRates {
		for _, years := range append([]int64{0, 1, impl.MaxYears}, noTerms...) {
			check(rate, years)
		}
	}
	for _, years := range noTerms {
		for _, rate := range []int64{0, 40, impl.MaxRate} {
			check(rate, years)
		}
	}
}

func TestGrowthExamples(t *testing.T) {
	for _, c := range []struct{ amount, rate, years, want, code int64 }{
		{10000, 35, 0, 10000, impl.ErrNone},
		{10000, 35, 2, 10712, impl.ErrNone},
		{9999, 35, 1, 10348, impl.ErrNone},
		// Rounded down in each year, and not once.
		{9999, 35, 3, 11084, impl.ErrNone},
		{1000, 1, 1, 1001, impl.ErrNone},
		{1000, 1, 120, 1120, impl.ErrNone},
		// Less than a cent of interest is none, in all years.
		{999, 1, 120, 999, impl.ErrNone},
		{4, 200, 120, 4, impl.ErrNone},
		{5, 199, 120, 5, impl.ErrNone},
		{5, 200, 1, 6, impl.ErrNone},
		{5, 200, 2, 7, impl.ErrNone},
		{5, 200, 120, 10299432637, impl.ErrNone},
		{1, 200, 120, 1, impl.ErrNone},
		// The least and the greatest amount, the rates and the years at the limits.
		{0, 0, 0, 0, impl.ErrNone},
		{0, 200, 120, 0, impl.ErrNone},
		{maxAmount, 0, 0, maxAmount, impl.ErrNone},
		{maxAmount, 200, 0, maxAmount, impl.ErrNone},
		{maxAmount, 0, 120, maxAmount, impl.ErrNone},
		{maxAmount, 1, 120, 1127429190, impl.ErrNone},
		{maxAmount, 200, 1, 1200000000, impl.ErrNone},
		// The amounts nearest to MaxMoney: none is just as great.
		{938609978, 176, 43, impl.MaxMoney - 7, impl.ErrNone},
		{938609979, 176, 43, 0, impl.ErrLimit},
		{993472252, 116, 63, 999999999164, impl.ErrNone},
		{993472253, 116, 63, 0, impl.ErrLimit},
		{974096621, 60, 119, 999999999931, impl.ErrNone},
		{974096622, 60, 119, 0, impl.ErrLimit},
		{974096621, 60, 120, 0, impl.ErrLimit},
		{maxAmount, 200, 37, 850562249678, impl.ErrNone},
		{maxAmount, 200, 38, 0, impl.ErrLimit},
		{maxAmount, 200, 39, 0, impl.ErrLimit},
		// Very much in the last years, which no int64 could hold.
		{maxAmount, 200, 120, 0, impl.ErrLimit},
	} {
		if n, code := impl.GrowAmount(c.amount, c.rate, c.years); n != c.want || code != c.code {
			t.Errorf("GrowAmount(%d, %d, %d) = %d, %d; want %d, %d", c.amount, c.rate, c.years, n, code, c.want, c.code)
		}
	}
}

func TestGrowthByHand(t *testing.T) {
	limit := big.NewInt(impl.MaxMoney)
	for _, amount := range []int64{0, 1, 2, 5, 7, 99, 999, 1000, 1001, 31337, 314159265, maxAmount - 1, maxAmount} {
		for rate := range int64(impl.MaxRate + 1) {
			for years, want := range growthByHand(amount, rate) {
				n, code := impl.GrowAmount(amount, rate, int64(years))
				if want.Cmp(limit) > 0 {
					if n != 0 || code != impl.ErrLimit {
						t.Errorf("GrowAmount(%d, %d, %d) = %d, %d", amount, rate, years, n, code)
					}
				} else if n != want.Int64() || code != impl.ErrNone {
					t.Errorf("GrowAmount(%d, %d, %d) = %d, %d; want %d", amount, rate, years, n, code, want)
				}
			}
		}
	}
}

func TestGrowthErrors(t *testing.T) {
	check := func(amount, rate, years int64) {
		t.Helper()
		if n, code := impl.GrowAmount(amount, rate, years); n != 0 || code != impl.ErrRange {
			t.Errorf("GrowAmount(%d, %d, %d) = %d, %d", amount, rate, years, n, code)
		}
	}
	for _, amount := range noAmounts {
		for _, rate := range []int64{0, 40, impl.MaxRate} {
			for _, years := range []int64{0, 1, impl.MaxYears} {
				check(amount, rate, years)
			}
		}
		check(amount, -1, -1)
	}
	// A number that is not in its range is wrong before the amount grows too great.
	for _, amount := range []int64{0, 1000, maxAmount} {
		for _, rate := range noRates {
			check(amount, rate, 0)
			check(amount, rate, 1)
			check(amount, rate, impl.MaxYears)
		}
		for _, years := range noTerms {
			check(amount, 0, years)
			check(amount, 40, years)
			check(amount, impl.MaxRate, years)
		}
	}
}

func TestCertainAnnuityExamples(t *testing.T) {
	for _, c := range []struct{ rate, years, want int64 }{
		{40, 0, 0},
		{40, 1, 1000000000},
		{40, 3, 2886094673},
		{35, 60, 25817799318},
		{0, 0, 0},
		{0, 1, 1000000000},
		{0, 120, 120000000000},
		{1, 120, 113139405565},
		{200, 0, 0},
		{200, 1, 1000000000},
		{200, 2, 1833333333},
		{200, 120, 5999999741},
	} {
		if n, code := impl.CertainAnnuity(c.rate, c.years); n != c.want || code != impl.ErrNone {
			t.Errorf("CertainAnnuity(%d, %d) = %d, %d; want %d", c.rate, c.years, n, code, c.want)
		}
	}
}

func TestCertainAnnuityByHand(t *testing.T) {
	for rate := range int64(impl.MaxRate + 1) {
		list := discountsByHand(rate)
		for years := range impl.MaxYears + 1 {
			want := sumOfBig(list[:years]).Int64()
			if n, code := impl.CertainAnnuity(rate, int64(years)); n != want || code != impl.ErrNone {
				t.Errorf("CertainAnnuity(%d, %d) = %d, %d; want %d", rate, years, n, code, want)
			}
		}
	}
}

// onlyLast returns a list of n payments that are 0 but for the last one.
func onlyLast(n int, payment int64) []int64 {
	return append(fill(n-1, 0), payment)
}

func TestPresentValueExamples(t *testing.T) {
	for _, c := range []struct {
		list       []int64
		rate, want int64
	}{
		{nil, 40, 0},
		{[]int64{}, 0, 0},
		{[]int64{}, impl.MaxRate, 0},
		{[]int64{100, 0, 100}, 40, 193},
		{[]int64{0}, 40, 0},
		{[]int64{1}, 40, 1},
		{[]int64{maxAmount}, impl.MaxRate, maxAmount},
		{[]int64{0, 0, 0}, 40, 0},
		// Any part of a cent is rounded up, and no part is not.
		{[]int64{0, 1}, 40, 1},
		{[]int64{0, 6}, 200, 5},
		{[]int64{0, 12}, 200, 10},
		{[]int64{0, maxAmount}, 200, 833333333},
		{[]int64{0, maxAmount, maxAmount}, 40, 1886094673},
		{[]int64{5, maxAmount, 0}, 200, 833333338},
		{[]int64{0, maxAmount, 1}, 200, 833333334},
		{onlyLast(120, 1), 1, 1},
		{onlyLast(120, maxAmount), 1, 887860541}, // the discount after 119 years
		// It is rounded once: 0.83 + 0.69 + 0.58 + 0.48.
		{[]int64{0, 1, 1, 1, 1}, 200, 3},
		// MaxYears payments, the greatest ones, too.
		{fill(120, 0), 40, 0},
		{fill(120, 1), 0, 120},
		{fill(120, maxAmount), 0, 120000000000},
		{fill(120, maxAmount), 1, 113139405565},
		{fill(120, maxAmount), 200, 5999999741},
		// Discounts that are 0.
		{onlyLast(109, 1), 200, 0},
		{onlyLast(109, maxAmount), 200, 0},
		{onlyLast(108, 1), 200, 1},
		{onlyLast(108, maxAmount), 200, 1},
		{onlyLast(120, maxAmount), 200, 0},
	} {
		if n, code := impl.PresentValue(c.list, c.rate); n != c.want || code != impl.ErrNone {
			t.Errorf("PresentValue(%v, %d) = %d, %d; want %d", c.list, c.rate, n, code, c.want)
		}
	}
}

func TestPresentValueByHand(t *testing.T) {
	random := rand.New(rand.NewSource(41))
	check := func(list []int64, rate int64) {
		t.Helper()
		discounts, sum := discountsByHand(rate), new(big.Int)
		for k, payment := range list {
			sum.Add(sum, new(big.Int).Mul(big.NewInt(payment), discounts[k]))
		}
		if n, code := impl.PresentValue(list, rate); !isUp(n, sum, big.NewInt(1000000000)) || code != impl.ErrNone {
			t.Errorf("PresentValue(%v, %d) = %d, %d; the sum is %d parts", list, rate, n, code, sum)
		}
	}
	for rate := range int64(impl.MaxRate + 1) {
		check(fill(impl.MaxYears, maxAmount), rate)
		check(fill(impl.MaxYears, maxAmount-1), rate)
		check(fill(impl.MaxYears, 1), rate)
	}
	for range 3000 {
		top := []int64{2, 300, 1000000, maxAmount + 1}[random.Intn(4)]
		list := make([]int64, random.Intn(impl.MaxYears+1))
		for k := range list {
			list[k] = random.Int63n(top)
		}
		check(list, random.Int63n(impl.MaxRate+1))
	}
}

func TestPresentValueErrors(t *testing.T) {
	check := func(list []int64, rate int64) {
		t.Helper()
		if n, code := impl.PresentValue(list, rate); n != 0 || code != impl.ErrRange {
			t.Errorf("PresentValue(%v, %d) = %d, %d", list, rate, n, code)
		}
	}
	for _, rate := range noRates {
		check(nil, rate)
		check([]int64{100, 0, 100}, rate)
		check(fill(121, -1), rate)
	}
	for _, payment := range noAmounts {
		for _, rate := range []int64{0, 40, impl.MaxRate} {
			check([]int64{payment}, rate)
			check([]int64{payment, 5, 5}, rate)
			check([]int64{5, payment, 5}, rate)
			check([]int64{5, 5, payment}, rate)
			// A wrong payment is wrong where the discount is 0, too.
			check(onlyLast(120, payment), rate)
		}
	}
	check([]int64{-1, 1}, 0)
	check(fill(121, 0), 0)
	check(fill(121, 0), 40)
	check(fill(121, 100), impl.MaxRate)
	check(fill(5000, 0), 40)
}

func TestPresentValueKeepsItsArgument(t *testing.T) {
	back := []int64{7, 100, 0, 100, 8, 9}
	if n, code := impl.PresentValue(back[1:4], 40); n != 193 || code != impl.ErrNone {
		t.Errorf("PresentValue = %d, %d", n, code)
	}
	if !slices.Equal(back, []int64{7, 100, 0, 100, 8, 9}) {
		t.Errorf("PresentValue changed its argument: %v", back)
	}
}

func TestLoanPaymentExamples(t *testing.T) {
	for _, c := range []struct{ amount, rate, years, want int64 }{
		{100000, 40, 2, 53020},
		{100000, 40, 10, 12330},
		{1000000, 35, 3, 356935},
		{5, 200, 1, 7}, // more than the 6 that it comes to, as the discount is rounded down
		{3, 0, 2, 2},
		// Just without a remainder, and next to it.
		{59, 0, 60, 1},
		{60, 0, 60, 1},
		{61, 0, 60, 2},
		{119, 0, 60, 2},
		{120, 0, 60, 2},
		{121, 0, 60, 3},
		// The least and the greatest loans.
		{1, 0, 1, 1},
		{1, 0, 60, 1},
		{1, 1, 1, 2},
		{1, 1, 2, 1},
		{1, 200, 60, 1},
		{maxLoan, 0, 1, maxLoan},
		{maxLoan, 0, 60, 1666667},
		{maxLoan, 1, 60, 1718000},
		{maxLoan, 40, 60, 4420185},
		{maxLoan, 200, 1, 120000001},
		{maxLoan, 200, 60, 20000356},
		{83333333, 200, 1, 100000000},
	} {
		if n, code := impl.LoanPayment(c.amount, c.rate, c.years); n != c.want || code != impl.ErrNone {
			t.Errorf("LoanPayment(%d, %d, %d) = %d, %d; want %d", c.amount, c.rate, c.years, n, code, c.want)
		}
	}
}

func TestLoanPlanExamples(t *testing.T) {
	for _, c := range []struct {
		amount, rate, years int64
		want                []int64
	}{
		{100000, 40, 2, []int64{53020, 53020}},
		{1000000, 35, 3, []int64{356935, 356935, 356934}},
		{3, 0, 2, []int64{2, 1}},
		{5, 0, 3, []int64{2, 2, 1}},
		{5, 98, 3, []int64{3, 3, 2}},
		{5, 200, 1, []int64{6}}, // the payment is 7
		{maxLoan, 200, 1, []int64{120000000}},
		{maxLoan, 0, 1, []int64{maxLoan}},
		{1, 0, 1, []int64{1}},
		{1, 1, 1, []int64{2}},
		// The balance comes to 0 earlier than the years of the loan.
		{1, 0, 2, []int64{1}},
		{1, 0, 60, []int64{1}},
		{2, 0, 60, []int64{1, 1}},
		{59, 0, 60, fill(59, 1)},
		{61, 0, 60, append(fill(30, 2), 1)},
		{120, 0, 59, fill(40, 3)},
		{117, 1, 60, append(fill(58, 3), 2)},
		// And later.
		{3, 1, 2, []int64{2, 2, 2}},
		{5, 1, 3, []int64{2, 2, 2, 2, 2}},
		{maxLoan, 1, 60, append(fill(60, 1718000), 2)},
		{115, 1, 60, fill(115, 2)},
		{116, 1, 60, fill(116, 2)}, // no plan is longer
		// Just in time.
		{60, 0, 60, fill(60, 1)},
		{119, 0, 60, append(fill(59, 2), 1)},
		{120, 0, 60, fill(60, 2)},
		{maxLoan, 0, 60, append(fill(59, 1666667), 1666647)},
		{maxLoan, 40, 60, append(fill(59, 4420185), 4420168)},
		{maxLoan, 200, 60, append(fill(59, 20000356), 19771294)},
	} {
		if list, code := impl.LoanPlan(c.amount, c.rate, c.years); !slices.Equal(list, c.want) || code != impl.ErrNone {
			t.Errorf("LoanPlan(%d, %d, %d) = %v, %d; want %v", c.amount, c.rate, c.years, list, code, c.want)
		}
	}
}

// TestLoansWithoutEnd has loans whose payments only pay the interest, or less than it.
func TestLoansWithoutEnd(t *testing.T) {
	for _, c := range []struct{ amount, rate, years int64 }{
		{1, 1, 2}, {1, 1, 60}, {1, 200, 2}, {1, 200, 60}, {2, 1, 3}, {2, 200, 60}, {11, 100, 60}, {58, 1, 60},
	} {
		if n, code := impl.LoanPayment(c.amount, c.rate, c.years); n < 1 || code != impl.ErrNone {
			t.Errorf("LoanPayment(%d, %d, %d) = %d, %d", c.amount, c.rate, c.years, n, code)
		}
		if list, code := impl.LoanPlan(c.amount, c.rate, c.years); len(list) != 0 || code != impl.ErrLimit {
			t.Errorf("LoanPlan(%d, %d, %d) = %v, %d", c.amount, c.rate, c.years, list, code)
		}
	}
}

// checkPlan checks promise 4 for a loan: its plan has its payment in all years, but for less in the last one, and pays back all of it and no more.
func checkPlan(t *testing.T, amount, rate, years, payment int64) {
	t.Helper()
	list, code := impl.LoanPlan(amount, rate, years)
	name := fmt.Sprintf("LoanPlan(%d, %d, %d)", amount, rate, years)
	given := list
	if code == impl.ErrLimit {
		if len(list) != 0 {
			t.Errorf("%s = %v, %d", name, list, code)
		}
		given = fill(impl.MaxYears, payment)
	} else if code != impl.ErrNone || len(list) == 0 || len(list) > impl.MaxYears {
		t.Errorf("%s = %v, %d", name, list, code)
		return
	}
	balance := amount
	for k, paid := range given {
		interest := balance * rate / 1000
		if balance*rate%1000 != 0 {
			interest++
		}
		balance += interest
		if paid != payment && (k != len(given)-1 || paid != balance) || paid > payment || paid > balance {
			t.Errorf("%s = %v, %d: %d is paid in the year %d, of a balance of %d; the payment is %d", name, list, code, paid, k, balance, payment)
			return
		}
		balance -= paid
		if balance == 0 && k < len(given)-1 {
			t.Errorf("%s = %v, %d: nothing is left after the year %d", name, list, code, k)
			return
		}
	}
	if (balance == 0) != (code == impl.ErrNone) {
		t.Errorf("%s = %v, %d: %d is left", name, list, code, balance)
	}
}

// checkLoan checks the payment and the plan of a loan, for the discounts of its rate.
func checkLoan(t *testing.T, amount, rate, years int64, discounts []*big.Int) {
	t.Helper()
	above := new(big.Int).Mul(big.NewInt(amount), big.NewInt(1000000000))
	payment, code := impl.LoanPayment(amount, rate, years)
	if !isUp(payment, above, sumOfBig(discounts[1:years+1])) || code != impl.ErrNone {
		t.Errorf("LoanPayment(%d, %d, %d) = %d, %d", amount, rate, years, payment, code)
	}
	checkPlan(t, amount, rate, years, payment)
}

// TestLoansArePaidBack tries all rates and many years, with the least and the greatest amounts and those between.
func TestLoansArePaidBack(t *testing.T) {
	random := rand.New(rand.NewSource(42))
	amounts := []int64{1, 2, 3, 5, 11, 59, 60, 61, 116, 117, 999, 1000, 1001, 10000, 123457, 10000000, maxLoan - 1, maxLoan}
	for rate := range int64(impl.MaxRate + 1) {
		discounts := discountsByHand(rate)
		for _, years := range []int64{1, 2, 3, 10, 37, 59, 60} {
			for _, amount := range amounts {
				checkLoan(t, amount, rate, years, discounts)
			}
		}
		for range 40 {
			top := []int64{100, 10000, maxLoan}[random.Intn(3)]
			checkLoan(t, 1+random.Int63n(top), rate, 1+random.Int63n(maxLoanYears), discounts)
		}
	}
}

func TestLoanErrors(t *testing.T) {
	check := func(amount, rate, years int64) {
		t.Helper()
		if n, code := impl.LoanPayment(amount, rate, years); n != 0 || code != impl.ErrRange {
			t.Errorf("LoanPayment(%d, %d, %d) = %d, %d", amount, rate, years, n, code)
		}
		if list, code := impl.LoanPlan(amount, rate, years); len(list) != 0 || code != impl.ErrRange {
			t.Errorf("LoanPlan(%d, %d, %d) = %v, %d", amount, rate, years, list, code)
		}
	}
	for _, amount := range noLoans {
		for _, rate := range []int64{0, 40, impl.MaxRate} {
			check(amount, rate, 1)
			check(amount, rate, maxLoanYears)
		}
		check(amount, -1, 0)
	}
	// A loan of 1 would have no end: what is not in its range is wrong before that.
	for _, amount := range []int64{1, 100000, maxLoan} {
		for _, rate := range noRates {
			check(amount, rate, 1)
			check(amount, rate, maxLoanYears)
		}
		for _, years := range noLoanYears {
			check(amount, 0, years)
			check(amount, 1, years)
			check(amount, impl.MaxRate, years)
		}
	}
}

func TestLoanPlanMemory(t *testing.T) {
	first, _ := impl.LoanPlan(5, 98, 3)
	second, _ := impl.LoanPlan(5, 98, 3)
	for i := range first {
		first[i] = -9
	}
	third, _ := impl.LoanPlan(5, 98, 3)
	if want := []int64{3, 3, 2}; !slices.Equal(second, want) || !slices.Equal(third, want) {
		t.Errorf("a result of LoanPlan shares memory: %v, %v", second, third)
	}
}

func TestDoublingYearsExamples(t *testing.T) {
	for _, c := range []struct{ rate, want, code int64 }{
		{0, 0, impl.ErrNotFound},
		{1, 0, impl.ErrNotFound},
		{5, 0, impl.ErrNotFound},
		{6, 116, impl.ErrNone},
		{7, 100, impl.ErrNone},
		{8, 87, impl.ErrNone},
		{10, 70, impl.ErrNone},
		{40, 18, impl.ErrNone},
		{189, 5, impl.ErrNone},
		{190, 4, impl.ErrNone},
		{200, 4, impl.ErrNone},
	} {
		if n, code := impl.DoublingYears(c.rate); n != c.want || code != c.code {
			t.Errorf("DoublingYears(%d) = %d, %d; want %d, %d", c.rate, n, code, c.want, c.code)
		}
	}
	for _, rate := range noRates {
		if n, code := impl.DoublingYears(rate); n != 0 || code != impl.ErrRange {
			t.Errorf("DoublingYears(%d) = %d, %d", rate, n, code)
		}
	}
}

func TestDoublingYearsByHand(t *testing.T) {
	double := big.NewInt(2000000)
	for rate := range int64(impl.MaxRate + 1) {
		want := slices.IndexFunc(growthByHand(1000000, rate), func(n *big.Int) bool { return n.Cmp(double) >= 0 })
		n, code := impl.DoublingYears(rate)
		if want < 0 {
			if n != 0 || code != impl.ErrNotFound {
				t.Errorf("DoublingYears(%d) = %d, %d", rate, n, code)
			}
		} else if n != int64(want) || code != impl.ErrNone {
			t.Errorf("DoublingYears(%d) = %d, %d; want %d", rate, n, code, want)
		}
	}
}

func TestRateBetweenExamples(t *testing.T) {
	for _, c := range []struct{ amount, later, years, want, code int64 }{
		{10000, 10711, 2, 35, impl.ErrNone},
		{10000, 10712, 2, 35, impl.ErrNone},
		{10000, 10713, 2, 36, impl.ErrNone},
		{100, 101, 1, 10, impl.ErrNone},
		{1000, 1001, 1, 1, impl.ErrNone},
		{999, 1000, 1, 2, impl.ErrNone},
		// The greatest rate is just enough, and not enough for one cent more.
		{1000, 1200, 1, 200, impl.ErrNone},
		{1000, 1201, 1, 0, impl.ErrNotFound},
		{1000, 1440, 2, 200, impl.ErrNone},
		{1000, 1441, 2, 0, impl.ErrNotFound},
		{833333334, maxAmount, 1, 200, impl.ErrNone},
		{833333333, maxAmount, 1, 0, impl.ErrNotFound},
		// The rate 0 is enough for what is there already.
		{100, 0, 5, 0, impl.ErrNone},
		{100, 99, 0, 0, impl.ErrNone},
		{100, 100, 0, 0, impl.ErrNone},
		{100, 100, 120, 0, impl.ErrNone},
		{0, 0, 0, 0, impl.ErrNone},
		{0, 0, 120, 0, impl.ErrNone},
		{maxAmount, maxAmount, 0, 0, impl.ErrNone},
		{maxAmount, maxAmount, 120, 0, impl.ErrNone},
		{maxAmount, 0, 120, 0, impl.ErrNone},
		// Without years, without an amount, or with less than a cent of interest, nothing grows.
		{100, 101, 0, 0, impl.ErrNotFound},
		{maxAmount - 1, maxAmount, 0, 0, impl.ErrNotFound},
		{0, 1, 120, 0, impl.ErrNotFound},
		{0, maxAmount, 120, 0, impl.ErrNotFound},
		{4, 5, 120, 0, impl.ErrNotFound},
		{1, maxAmount, 120, 0, impl.ErrNotFound},
		{5, 6, 1, 200, impl.ErrNone},
		{5, 6, 120, 200, impl.ErrNone},
		{5, maxAmount, 120, 200, impl.ErrNone},
		{6, 7, 1, 167, impl.ErrNone},
		{maxAmount - 1, maxAmount, 1, 1, impl.ErrNone},
		// Greater rates would give more than MaxMoney.
		{314, maxAmount, 120, 134, impl.ErrNone},
		{315, maxAmount, 120, 134, impl.ErrNone},
		{100, maxAmount, 120, 145, impl.ErrNone},
	} {
		if n, code := impl.RateBetween(c.amount, c.later, c.years); n != c.want || code != c.code {
			t.Errorf("RateBetween(%d, %d, %d) = %d, %d; want %d, %d", c.amount, c.later, c.years, n, code, c.want, c.code)
		}
	}
}

// TestRateBetweenByHand has later amounts that are just reached, and those next to them.
func TestRateBetweenByHand(t *testing.T) {
	random := rand.New(rand.NewSource(43))
	for range 40 {
		amount := random.Int63n([]int64{20, 3000, 1000000, maxAmount + 1}[random.Intn(4)])
		growths := [][]*big.Int{}
		for rate := range int64(impl.MaxRate + 1) {
			growths = append(growths, growthByHand(amount, rate))
		}
		for range 60 {
			years := random.Int63n([]int64{3, 20, impl.MaxYears + 1}[random.Intn(3)])
			reached := growths[random.Intn(len(growths))][years]
			if reached.Cmp(big.NewInt(maxAmount)) >= 0 {
				reached = big.NewInt(maxAmount - 1)
			}
			for later := max(reached.Int64()-1, 0); later <= reached.Int64()+1; later++ {
				want := slices.IndexFunc(growths, func(list []*big.Int) bool { return list[years].Cmp(big.NewInt(later)) >= 0 })
				wantCode := int64(impl.ErrNone)
				if want < 0 {
					want, wantCode = 0, impl.ErrNotFound
				}
				if n, code := impl.RateBetween(amount, later, years); n != int64(want) || code != wantCode {
					t.Errorf("RateBetween(%d, %d, %d) = %d, %d; want %d, %d", amount, later, years, n, code, want, wantCode)
				}
			}
		}
	}
}

func TestRateBetweenErrors(t *testing.T) {
	check := func(amount, later, years int64) {
		t.Helper()
		if n, code := impl.RateBetween(amount, later, years); n != 0 || code != impl.ErrRange {
			t.Errorf("RateBetween(%d, %d, %d) = %d, %d", amount, later, years, n, code)
		}
	}
	// Beside what is in its range, a rate would be found or not.
	for _, wrong := range noAmounts {
		for _, amount := range []int64{0, 100, maxAmount} {
			for _, years := range []int64{0, 1, impl.MaxYears} {
				check(wrong, amount, years)
				check(amount, wrong, years)
			}
		}
		check(wrong, wrong, -1)
	}
	for _, years := range noTerms {
		check(100, 100, years)
		check(100, 101, years)
		check(0, maxAmount, years)
		check(maxAmount, 0, years)
	}
}

// TestInterestKeepsNothing asks for many rates by turns and at the same time: no call changes what another one returns.
func TestInterestKeepsNothing(t *testing.T) {
	ask := func(rate int64) [4]int64 {
		discount, _ := impl.DiscountOf(rate, 7)
		annuity, _ := impl.CertainAnnuity(rate, impl.MaxYears)
		value, _ := impl.PresentValue([]int64{100, 200, maxAmount}, rate)
		payment, _ := impl.LoanPayment(100000, rate, 10)
		return [4]int64{discount, annuity, value, payment}
	}
	want := [impl.MaxRate + 1][4]int64{}
	for rate := range want {
		want[rate] = ask(int64(rate))
	}
	var workers sync.WaitGroup
	for worker := range 8 {
		workers.Go(func() {
			random := rand.New(rand.NewSource(int64(worker)))
			for range 2000 {
				rate := random.Intn(len(want))
				if got := ask(int64(rate)); got != want[rate] {
					t.Errorf("rate %d: %v; want %v", rate, got, want[rate])
				}
			}
		})
	}
	workers.Wait()
}
