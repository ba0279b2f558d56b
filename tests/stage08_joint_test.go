package tests

import (
	"fmt"
	"math"
	"math/big"
	"math/rand"
	"slices"
	"testing"

	"loop.example/g01025/impl"
)

// Tables with few lives.
var (
	oldLives   = table(60, 100, 90, 72, 36, 0)
	shortLives = table(60, 100, 90, 50, 0)
	youngLives = table(55, 80, 60, 40, 20, 0)
)

// couple is two lives, each with a table and an age.
type couple struct {
	t impl.LifeTable
	x int64
	u impl.LifeTable
	y int64
}

// The functions of chapter 8 that take years, and those that take a rate and an amount.
var (
	chances = []struct {
		name   string
		chance func(c couple, years int64) (int64, int64, int64)
	}{
		{"BothAlive", func(c couple, years int64) (int64, int64, int64) { return impl.BothAlive(c.t, c.x, c.u, c.y, years) }},
		{"OneAlive", func(c couple, years int64) (int64, int64, int64) { return impl.OneAlive(c.t, c.x, c.u, c.y, years) }},
	}
	jointAnnuities = []struct {
		name  string
		price func(c couple, rate, amount int64) (int64, int64)
	}{
		{"JointAnnuity", func(c couple, rate, amount int64) (int64, int64) {
			return impl.JointAnnuity(c.t, c.x, c.u, c.y, rate, amount)
		}},
		{"WidowAnnuity", func(c couple, rate, amount int64) (int64, int64) {
			return impl.WidowAnnuity(c.t, c.x, c.u, c.y, rate, amount)
		}},
		{"LastAnnuity", func(c couple, rate, amount int64) (int64, int64) {
			return impl.LastAnnuity(c.t, c.x, c.u, c.y, rate, amount)
		}},
	}
)

// joined and widowYears are the functions that take a couple alone.
func joined(c couple) (impl.LifeTable, int64)   { return impl.JointTable(c.t, c.x, c.u, c.y) }
func widowYears(c couple) (int64, int64, int64) { return impl.WidowYears(c.t, c.x, c.u, c.y) }
func sameTable(a impl.LifeTable, b impl.LifeTable) bool {
	return a.First == b.First && slices.Equal(a.Lives, b.Lives)
}

// joinedByHand returns the joint table of a couple of whom both are alive.
func joinedByHand(c couple) impl.LifeTable {
	j := impl.LifeTable{First: c.x}
	for k := int64(0); ; k++ {
		n := new(big.Int).Div(product(leftAt(c.t, c.x+k), leftAt(c.u, c.y+k)), big.NewInt(leftAt(c.u, c.y))).Int64()
		j.Lives = append(j.Lives, n)
		if n == 0 {
			return j
		}
	}
}

// yearsByHand returns the mean number of full years that are lived from an age on.
func yearsByHand(x impl.LifeTable, age int64) *big.Rat {
	sum := int64(0)
	for later := age + 1; later < endOf(x); later++ {
		sum += leftAt(x, later)
	}
	return big.NewRat(sum, leftAt(x, age))
}

// livingAges are ages of a table at which lives are left and which are at most a limit: the first, the last, and one by
// chance.
func livingAges(random *rand.Rand, x impl.LifeTable, limit int64) []int64 {
	last := min(endOf(x)-1, limit)
	return []int64{x.First, x.First + random.Int63n(last-x.First+1), last}
}

// couplesByChance calls try for all pairs of sample tables, with ages at which lives are left.
func couplesByChance(seed int64, try func(random *rand.Rand, c couple)) {
	random := rand.New(rand.NewSource(seed))
	tables := sampleTables()
	for _, t := range tables {
		for _, u := range tables {
			x, y := livingAges(random, t, 100)[random.Intn(3)], livingAges(random, u, impl.MaxAge)[random.Intn(3)]
			try(random, couple{t, x, u, y})
		}
	}
}

// allCouples calls try for a few pairs of tables at all ages at which lives are left.
func allCouples(try func(c couple)) {
	tables := []impl.LifeTable{oldLives, youngLives, table(0, 1, 0), table(98, 9, 9, 6, 4, 4, 1, 0), slowTable(60, 12, 30)}
	for _, t := range tables {
		for _, u := range tables {
			for x := t.First; x < min(endOf(t), 101); x++ {
				for y := u.First; y < endOf(u); y++ {
					try(couple{t, x, u, y})
				}
			}
		}
	}
}

func TestJointTableExamples(t *testing.T) {
	for _, e := range []struct {
		c    couple
		want string
	}{
		// The table of the first life ends first.
		{couple{shortLives, 60, youngLives, 55}, "60 100 67 25 0"},
		{couple{shortLives, 61, youngLives, 55}, "61 90 37 0"},
		{couple{shortLives, 60, youngLives, 56}, "60 100 60 16 0"},
		{couple{oldLives, 61, oldLives, 60}, "61 90 64 25 0"},
		{couple{table(100, 7, 7, 7, 0), 100, oldLives, 60}, "100 7 6 5 0"},
		{couple{table(60, 10, 9, 0), 60, table(50, 9, 1, 1, 0), 50}, "60 10 1 0"},
		// That of the second one.
		{couple{youngLives, 55, shortLives, 60}, "55 80 54 20 0"},
		{couple{shortLives, 60, youngLives, 57}, "60 100 45 0"},
		{couple{oldLives, 60, oldLives, 61}, "60 100 72 28 0"},
		{couple{oldLives, 60, table(100, 7, 7, 7, 0), 100}, "60 100 90 72 0"},
		// Both at once.
		{couple{oldLives, 60, oldLives, 60}, "60 100 81 51 12 0"},
		{couple{table(60, 2, 2, 0), 60, table(50, 2, 1, 0), 50}, "60 2 1 0"},
		{couple{table(60, 10, 9, 0), 60, table(50, 9, 1, 0), 50}, "60 10 1 0"},
		// Rounding down comes to 0 before, with lives of both left.
		{couple{table(60, 3, 2, 1, 0), 60, table(50, 100, 50, 10, 1, 0), 50}, "60 3 1 0"},
		{couple{table(60, 9, 6, 4, 2, 0), 60, table(50, 10, 5, 3, 1, 1, 0), 50}, "60 9 3 1 0"},
		{couple{table(60, 1, 1, 0), 60, table(50, 2, 1, 0), 50}, "60 1 0"},
		{couple{table(60, 10, 8, 0), 60, table(50, 9, 1, 0), 50}, "60 10 0"},
		{couple{table(0, 3, 1, 1, 1, 1, 0), 0, table(0, 8, 8, 7, 6, 5, 0), 0}, "0 3 1 0"},
		// The last ages at which lives are left.
		{couple{shortLives, 62, youngLives, 55}, "62 50 0"},
		{couple{shortLives, 60, youngLives, 58}, "60 100 0"},
		{couple{shortLives, 62, youngLives, 58}, "62 50 0"},
		{couple{oldLives, 63, oldLives, 60}, "63 36 0"},
		{couple{oldLives, 60, oldLives, 63}, "60 100 0"},
		// The ages 0 and 100, and a partner that is older.
		{couple{table(0, 1, 0), 0, table(0, impl.MaxLives, 0), 0}, "0 1 0"},
		{couple{table(0, impl.MaxLives, 0), 0, table(0, 1, 0), 0}, "0 1000000 0"},
		{couple{table(0, 1, 0), 0, oldLives, 62}, "0 1 0"},
		{couple{oldLives, 62, table(0, 1, 0), 0}, "62 72 0"},
		{couple{level(0, 50, 105), 100, oldLives, 60}, "100 50 45 36 18 0"},
		{couple{level(50, 50, 55), 100, oldLives, 60}, "100 50 45 36 18 0"},
		{couple{oldLives, 60, lateTable, 148}, "60 100 90 0"},
		{couple{oldLives, 60, longTable, 149}, "60 100 0"},
		// Products that are great.
		{couple{table(0, impl.MaxLives, 999999, 999998, 0), 0, table(9, impl.MaxLives, 999999, 999998, 0), 9}, "0 1000000 999998 999996 0"},
		// A partner who does not die before, and lives that do not.
		{couple{shortLives, 60, longTable, 31}, "60 100 90 50 0"},
		{couple{table(60, 100, 100, 100, 0), 60, table(40, 100, 50, 0), 40}, "60 100 50 0"},
		{couple{table(60, 3, 3, 3, 0), 60, table(40, 100, 50, 0), 40}, "60 3 1 0"},
	} {
		j, code := joined(e.c)
		if s := impl.TableText(j); s != e.want || code != impl.ErrNone {
			t.Errorf("JointTable%v = %v, %d; want %s", e.c, j, code, e.want)
		}
	}
}

// TestLongJointTables has joint tables of 120 numbers, and of as many as there are from the age 100 to MaxAge.
func TestLongJointTables(t *testing.T) {
	for _, e := range []struct {
		c       couple
		numbers int
	}{
		{couple{longTable, 31, longTable, 31}, 120},
		{couple{longTable, 31, level(0, 1, 120), 0}, 120},
		{couple{slowLives, 0, longTable, 31}, 120},
		{couple{longTable, 32, longTable, 31}, 119},
		{couple{longTable, 31, longTable, 32}, 119},
		{couple{longTable, 100, longTable, 31}, 51},
		{couple{longTable, 31, longTable, 100}, 51},
		{couple{lateTable, 100, slowLives, 0}, 51},
		{couple{lateTable, 100, slowLives, 100}, 20},
	} {
		j, code := joined(e.c)
		if !sameTable(j, joinedByHand(e.c)) || len(j.Lives) != e.numbers || code != impl.ErrNone {
			t.Errorf("JointTable%v = %v, %d; want %d numbers", e.c, j, code, e.numbers)
		}
	}
}

// TestJointTablesByHand checks promise 8 besides: a joint table never has more lives than the first one.
func TestJointTablesByHand(t *testing.T) {
	found := map[bool]int{}
	check := func(c couple) {
		t.Helper()
		j, code := joined(c)
		if want := joinedByHand(c); !sameTable(j, want) || !impl.IsLifeTable(j) || code != impl.ErrNone {
			t.Errorf("JointTable%v = %v, %d; want %v", c, j, code, want)
		}
		for age := c.x; age <= impl.MaxAge; age++ {
			both, bothCode := impl.LivesAt(j, age)
			first, firstCode := impl.LivesAt(c.t, age)
			if both > first || bothCode != impl.ErrNone || firstCode != impl.ErrNone {
				t.Errorf("%v: %d lives of the joint table %v at the age %d; codes %d, %d", c, both, j, age, bothCode, firstCode)
			}
			found[both < first]++
		}
		if at, _ := impl.LivesAt(c.t, c.x); j.Lives[0] != at {
			t.Errorf("%v: the joint table %v begins with other lives than %d", c, j, at)
		}
	}
	allCouples(check)
	couplesByChance(81, func(_ *rand.Rand, c couple) { check(c) })
	if found[false] == 0 || found[true] == 0 {
		t.Errorf("lives that were compared: %v", found)
	}
}

// TestTwoLivesEndBeforeEachOfThem checks the guarantee of the chapter: two lives are not expected to last longer together
// than each of them. As the joint table is rounded down, this needs no allowance for rounding.
func TestTwoLivesEndBeforeEachOfThem(t *testing.T) {
	found := map[int]int{}
	check := func(c couple) {
		t.Helper()
		j, _ := joined(c)
		n, d, code := impl.ExpectedYears(j, c.x)
		if code != impl.ErrNone {
			t.Errorf("ExpectedYears(%v, %d): code %d", j, c.x, code)
			return
		}
		together := big.NewRat(n, d)
		for _, single := range []*big.Rat{yearsByHand(c.t, c.x), yearsByHand(c.u, c.y)} {
			if together.Cmp(single) > 0 {
				t.Errorf("%v: %v years together, and %v years of one of them", c, together, single)
			}
			found[together.Cmp(single)]++
		}
	}
	allCouples(check)
	couplesByChance(82, func(_ *rand.Rand, c couple) { check(c) })
	if found[0] == 0 || found[-1] == 0 {
		t.Errorf("years that were compared: %v", found)
	}
}

func TestChancesExamples(t *testing.T) {
	sevens := table(100, 7, 7, 7, 0)
	for _, e := range []struct {
		c                    couple
		years                int64
		bothAbove, bothBelow int64
		oneAbove, oneBelow   int64
	}{
		{couple{shortLives, 60, youngLives, 55}, 0, 1, 1, 1, 1},
		{couple{shortLives, 60, youngLives, 55}, 1, 27, 40, 39, 40},
		{couple{shortLives, 60, youngLives, 55}, 2, 1, 4, 3, 4},
		// Past the end of one table, of both, and at MaxAge.
		{couple{shortLives, 60, youngLives, 55}, 3, 0, 1, 1, 4},
		{couple{shortLives, 60, youngLives, 55}, 4, 0, 1, 0, 1},
		{couple{shortLives, 60, youngLives, 55}, 5, 0, 1, 0, 1},
		{couple{shortLives, 60, youngLives, 55}, 90, 0, 1, 0, 1},
		{couple{shortLives, 60, youngLives, 55}, 91, 0, 1, 0, 1},
		{couple{shortLives, 60, youngLives, 55}, impl.MaxAge - 1, 0, 1, 0, 1},
		{couple{shortLives, 60, youngLives, 55}, impl.MaxAge, 0, 1, 0, 1},
		// The lives in the other order.
		{couple{youngLives, 55, shortLives, 60}, 0, 1, 1, 1, 1},
		{couple{youngLives, 55, shortLives, 60}, 1, 27, 40, 39, 40},
		{couple{youngLives, 55, shortLives, 60}, 3, 0, 1, 1, 4},
		{couple{youngLives, 55, shortLives, 60}, 4, 0, 1, 0, 1},
		// Later ages, up to the last ones at which lives are left.
		{couple{shortLives, 61, youngLives, 57}, 1, 5, 18, 7, 9},
		{couple{shortLives, 61, youngLives, 57}, 2, 0, 1, 0, 1},
		{couple{shortLives, 62, youngLives, 58}, 0, 1, 1, 1, 1},
		{couple{shortLives, 62, youngLives, 58}, 1, 0, 1, 0, 1},
		{couple{shortLives, 62, youngLives, 55}, 1, 0, 1, 3, 4},
		{couple{shortLives, 60, youngLives, 58}, 1, 0, 1, 9, 10},
		{couple{shortLives, 62, youngLives, 58}, impl.MaxAge, 0, 1, 0, 1},
		// The ages 0 and 100.
		{couple{table(0, 1, 0), 0, table(0, impl.MaxLives, 0), 0}, 0, 1, 1, 1, 1},
		{couple{table(0, 1, 0), 0, table(0, impl.MaxLives, 0), 0}, 1, 0, 1, 0, 1},
		{couple{table(0, 1, 0), 0, table(0, impl.MaxLives, 0), 0}, impl.MaxAge, 0, 1, 0, 1},
		{couple{sevens, 100, oldLives, 60}, 1, 9, 10, 1, 1},
		{couple{sevens, 100, oldLives, 60}, 2, 18, 25, 1, 1},
		{couple{sevens, 100, oldLives, 60}, 3, 0, 1, 9, 25},
		{couple{sevens, 100, oldLives, 60}, 4, 0, 1, 0, 1},
		{couple{sevens, 100, oldLives, 60}, 50, 0, 1, 0, 1},
		{couple{sevens, 100, oldLives, 60}, 51, 0, 1, 0, 1},
		{couple{oldLives, 60, sevens, 100}, 2, 18, 25, 1, 1},
		{couple{oldLives, 60, sevens, 100}, 3, 0, 1, 9, 25},
		{couple{longTable, 31, longTable, 31}, 118, 1, 1, 1, 1},
		{couple{longTable, 31, longTable, 32}, 118, 0, 1, 1, 1},
		{couple{longTable, 31, longTable, 31}, 119, 0, 1, 0, 1},
		// A partner who is alive then though the joint table has ended.
		{couple{table(60, 1, 1, 0), 60, table(50, 2, 1, 0), 50}, 1, 1, 2, 1, 1},
		// The greatest numbers.
		{couple{table(0, impl.MaxLives, 999999, 0), 0, table(0, impl.MaxLives, 999999, 0), 0}, 1, 999998000001, 1000000000000, 999999999999, 1000000000000},
		{couple{table(0, impl.MaxLives, 1, 0), 0, table(0, impl.MaxLives, 1, 0), 0}, 1, 1, 1000000000000, 1999999, 1000000000000},
		{couple{table(0, 999999, 999998, 0), 0, table(0, impl.MaxLives, 999997, 0), 0}, 1, 499997500003, 499999500000, 333332999999, 333333000000},
	} {
		want := [][2]int64{{e.bothAbove, e.bothBelow}, {e.oneAbove, e.oneBelow}}
		for i, f := range chances {
			if n, d, code := f.chance(e.c, e.years); n != want[i][0] || d != want[i][1] || code != impl.ErrNone {
				t.Errorf("%s(%v, %d) = %d / %d, %d; want %v", f.name, e.c, e.years, n, d, code, want[i])
			}
		}
	}
}

func TestChancesByHand(t *testing.T) {
	check := func(c couple, years int64) {
		t.Helper()
		p := big.NewRat(leftAt(c.t, c.x+years), leftAt(c.t, c.x))
		q := big.NewRat(leftAt(c.u, c.y+years), leftAt(c.u, c.y))
		both := new(big.Rat).Mul(p, q)
		one := new(big.Rat).Sub(new(big.Rat).Add(p, q), both)
		for i, want := range []*big.Rat{both, one} {
			// A big.Rat is in lowest terms, and 0 is 0 / 1.
			n, d, code := chances[i].chance(c, years)
			if n != want.Num().Int64() || d != want.Denom().Int64() || code != impl.ErrNone {
				t.Errorf("%s(%v, %d) = %d / %d, %d; want %v", chances[i].name, c, years, n, d, code, want)
			}
		}
	}
	allCouples(func(c couple) {
		for _, years := range []int64{0, 1, 2, 3, 4, 5, 40, impl.MaxAge} {
			check(c, years)
		}
	})
	couplesByChance(83, func(random *rand.Rand, c couple) {
		first, second := endOf(c.t)-c.x, endOf(c.u)-c.y
		for _, years := range []int64{0, 1, first - 1, first, second - 1, second, random.Int63n(max(first, second)), random.Int63n(impl.MaxAge + 1), impl.MaxAge} {
			check(c, years)
		}
	})
}

func TestJointAnnuityExamples(t *testing.T) {
	halves := table(40, 100, 50, 0)
	for _, e := range []struct {
		c                     couple
		rate, amount          int64
		together, widow, last int64
	}{
		{couple{shortLives, 60, youngLives, 55}, 0, 1000, 1920, 581, 2981},
		{couple{youngLives, 55, shortLives, 60}, 0, 1000, 1925, 476, 2976},
		{couple{shortLives, 60, youngLives, 55}, 40, 1000, 1876, 531, 2859},
		{couple{shortLives, 61, youngLives, 57}, 40, 1000, 1268, 214, 1749},
		// The last ages at which lives are left: one payment only.
		{couple{shortLives, 62, youngLives, 58}, 40, 1000, 1000, 1, 1001},
		{couple{shortLives, 62, youngLives, 55}, 40, 1000, 1000, 1407, 2407},
		{couple{shortLives, 60, youngLives, 58}, 40, 1000, 1000, 1, 2329},
		// The least and the greatest amount, and the rates at the limits.
		{couple{shortLives, 60, youngLives, 55}, 0, 1, 2, 2, 5},
		{couple{shortLives, 60, youngLives, 55}, 40, 1, 2, 2, 5},
		{couple{shortLives, 60, youngLives, 55}, 0, maxPayment, 1920000, 580001, 2980001},
		{couple{shortLives, 60, youngLives, 55}, 40, maxPayment, 1875370, 530313, 2857976},
		{couple{shortLives, 60, youngLives, 55}, impl.MaxRate, 1000, 1732, 386, 2484},
		{couple{shortLives, 60, youngLives, 55}, impl.MaxRate, maxPayment, 1731945, 384955, 2482178},
		// Nothing is left to the second life but the 1 that is added, with and without prices that are rounded up.
		{couple{table(60, 100, 100, 100, 0), 60, halves, 40}, 0, 1000, 1500, 1, 3001},
		{couple{table(60, 100, 100, 100, 0), 60, halves, 40}, 0, 7, 11, 1, 22},
		{couple{longTable, 31, longTable, 31}, 40, 1000, 25756, 1, 25757},
		// The joint table is rounded down to less.
		{couple{table(60, 3, 3, 3, 0), 60, halves, 40}, 0, 1000, 1334, 167, 3167},
		{couple{table(60, 100, 50, 0), 60, table(40, 100, 100, 100, 0), 40}, 0, 7, 11, 11, 22},
		// The ages 0 and 100.
		{couple{table(0, 1, 0), 0, table(0, 1, 0), 0}, 0, 1, 1, 1, 2},
		{couple{table(0, 1, 0), 0, table(0, impl.MaxLives, 0), 0}, impl.MaxRate, maxPayment, 1000000, 1, 1000001},
		{couple{table(100, 7, 7, 7, 0), 100, oldLives, 60}, 35, 1000, 2495, 373, 3273},
		{couple{oldLives, 60, table(100, 7, 7, 7, 0), 100}, 35, 1000, 2542, 359, 3226},
		{couple{slowLives, 0, longTable, 31}, 40, 1000, 7076, 18681, 25757},
		{couple{longTable, 100, longTable, 31}, 40, 1000, 22342, 3415, 25757},
		// The greatest prices.
		{couple{longTable, 31, longTable, 31}, 0, maxPayment, 119000000, 1, 119000001},
		{couple{longTable, 31, longTable, 31}, impl.MaxRate, maxPayment, 6000000, 1, 6000001},
		{couple{longTable, 31, lateTable, 149}, impl.MaxRate, 1, 1, 1, 7},
		// Discounts of one of them that are rounded down to very little: the joint table begins anew with One.
		{couple{slowLives, 100, lateTable, 100}, impl.MaxRate, maxPayment, 5812195, 187147, 4087147},
		{couple{longTable, 31, longTable, 130}, impl.MaxRate, 1000, 5844, -1593, 4407},
		{couple{level(0, impl.MaxLives, 120), 0, longTable, 137}, impl.MaxRate, maxPayment, 5439217, -3939216, 2060784},
		{couple{lateTable, 100, longTable, 138}, impl.MaxRate, 1000, 5328, -4327, 1673},
		{couple{slowLives, 0, longTable, 138}, impl.MaxRate, 1000, 2759, -1758, 1136},
		{couple{slowLives, 0, slowLives, 107}, impl.MaxRate, 1000, 2759, -1758, 1136},
		{couple{slowLives, 100, slowLives, 107}, impl.MaxRate, maxPayment, 5327061, -4327060, -427060},
	} {
		for i, want := range []int64{e.together, e.widow, e.last} {
			f := jointAnnuities[i]
			if n, code := f.price(e.c, e.rate, e.amount); n != want || code != impl.ErrNone {
				t.Errorf("%s(%v, %d, %d) = %d, %d; want %d", f.name, e.c, e.rate, e.amount, n, code, want)
			}
		}
	}
}

// lifePriceByHand returns the price of an annuity for life, or nil if D is 0 at the age; discounts are those of the rate.
func lifePriceByHand(x impl.LifeTable, age, amount int64, discounts []*big.Int) *big.Int {
	sum, now := new(big.Int), new(big.Int)
	for later := age; later < endOf(x); later++ {
		d := new(big.Int).Mul(big.NewInt(leftAt(x, later)), discounts[later-x.First])
		if later == age {
			now = d
		}
		sum.Add(sum, d)
	}
	if now.Sign() == 0 {
		return nil
	}
	sum.Mul(sum, big.NewInt(amount))
	return sum.Add(sum, now).Sub(sum, big.NewInt(1)).Div(sum, now)
}

// checkJointPrices compares the three prices with those found by hand, and tells whether there are any.
func checkJointPrices(t *testing.T, c couple, rate, amount int64) bool {
	t.Helper()
	discounts := discountsByHand(rate)
	first := lifePriceByHand(c.t, c.x, amount, discounts)
	second := lifePriceByHand(c.u, c.y, amount, discounts)
	if first == nil || second == nil {
		checkNoJointPrices(t, c, rate, amount, impl.ErrState)
		return false
	}
	together := lifePriceByHand(joinedByHand(c), c.x, amount, discounts).Int64()
	widow := second.Int64() + 1 - together
	for i, want := range []int64{together, widow, first.Int64() + widow} {
		f := jointAnnuities[i]
		if n, code := f.price(c, rate, amount); n != want || code != impl.ErrNone {
			t.Errorf("%s(%v, %d, %d) = %d, %d; want %d", f.name, c, rate, amount, n, code, want)
		}
	}
	return true
}

func TestJointAnnuitiesByHand(t *testing.T) {
	found := map[bool]int{}
	allCouples(func(c couple) {
		for _, rate := range []int64{0, 40, impl.MaxRate} {
			checkJointPrices(t, c, rate, 1000)
		}
	})
	couplesByChance(84, func(random *rand.Rand, c couple) {
		rate := []int64{0, 1, random.Int63n(impl.MaxRate + 1), impl.MaxRate}[random.Intn(4)]
		amount := []int64{1, 1 + random.Int63n(maxPayment), maxPayment}[random.Intn(3)]
		found[checkJointPrices(t, c, rate, amount)]++
	})
	for rate := range int64(impl.MaxRate + 1) {
		checkJointPrices(t, couple{shortLives, 60, youngLives, 55}, rate, maxPayment)
		for y := int64(136); y < 150; y++ {
			found[checkJointPrices(t, couple{oldLives, 61, longTable, y}, rate, 12345)]++
		}
	}
	if found[true] == 0 || found[false] == 0 {
		t.Errorf("couples with and without prices: %v", found)
	}
}

// TestFirstLivesAlwaysHaveDiscounts has the age 100 of tables that begin with 0, a hundred years before: no life at an age x
// is without D, whatever the rate.
func TestFirstLivesAlwaysHaveDiscounts(t *testing.T) {
	for rate := range int64(impl.MaxRate + 1) {
		for _, x := range []impl.LifeTable{slowLives, level(0, 1, 120), level(0, impl.MaxLives, 102)} {
			if !checkJointPrices(t, couple{x, 100, youngLives, 55}, rate, 1000) {
				t.Errorf("no prices at the rate %d for %v", rate, x)
			}
		}
	}
}

func TestWidowYearsExamples(t *testing.T) {
	for _, e := range []struct {
		c    couple
		n, d int64
	}{
		{couple{shortLives, 60, youngLives, 55}, 29, 50},
		{couple{youngLives, 55, shortLives, 60}, 19, 40},
		{couple{shortLives, 61, youngLives, 57}, 2, 9},
		{couple{shortLives, 62, youngLives, 55}, 3, 2},
		{couple{oldLives, 60, oldLives, 60}, 27, 50},
		{couple{table(0, 1, 0), 0, oldLives, 60}, 99, 50},
		{couple{table(100, 7, 7, 7, 0), 100, oldLives, 60}, 143, 350},
		{couple{oldLives, 60, table(100, 7, 7, 7, 0), 100}, 19, 50},
		{couple{table(60, 3, 3, 3, 0), 60, table(40, 100, 50, 0), 40}, 1, 6},
		{couple{table(60, 7, 0), 60, slowTable(30, 60, 120), 30}, 1829, 60},
		// Nothing: the second life ends at once, the first one outlives it, or both are never apart.
		{couple{shortLives, 62, youngLives, 58}, 0, 1},
		{couple{shortLives, 60, youngLives, 58}, 0, 1},
		{couple{oldLives, 60, table(0, 1, 0), 0}, 0, 1},
		{couple{table(0, 1, 0), 0, table(0, impl.MaxLives, 0), 0}, 0, 1},
		{couple{table(60, 100, 100, 100, 0), 60, table(40, 100, 50, 0), 40}, 0, 1},
		{couple{longTable, 31, longTable, 31}, 0, 1},
		// Whole numbers, and numerators that are greater than MaxMoney.
		{couple{longTable, 100, longTable, 31}, 69, 1},
		{couple{table(0, impl.MaxLives, 0), 0, longTable, 31}, 118, 1},
		{couple{table(0, impl.MaxLives, 1, 0), 0, longTable, 31}, 117999999, 1000000},
		{couple{table(0, impl.MaxLives, 999999, 0), 0, table(0, impl.MaxLives, 999999, 0), 0}, 1, 1000000},
		{couple{table(0, 999999, 999998, 0), 0, slowTable(31, impl.MaxLives, 120), 31}, 116992864007021, 999999000000},
	} {
		if n, d, code := widowYears(e.c); n != e.n || d != e.d || code != impl.ErrNone {
			t.Errorf("WidowYears%v = %d / %d, %d; want %d / %d", e.c, n, d, code, e.n, e.d)
		}
	}
}

// TestWidowYearsByHand has all that is left to the second life, which is never less than nothing.
func TestWidowYearsByHand(t *testing.T) {
	signs := map[int]int{}
	check := func(c couple) {
		t.Helper()
		want := new(big.Rat).Sub(yearsByHand(c.u, c.y), yearsByHand(joinedByHand(c), c.x))
		signs[want.Sign()]++
		n, d, code := widowYears(c)
		if n != want.Num().Int64() || d != want.Denom().Int64() || code != impl.ErrNone {
			t.Errorf("WidowYears%v = %d / %d, %d; want %v", c, n, d, code, want)
		}
	}
	allCouples(check)
	couplesByChance(85, func(_ *rand.Rand, c couple) { check(c) })
	if signs[0] == 0 || signs[1] == 0 || signs[-1] != 0 {
		t.Errorf("signs of the years: %v", signs)
	}
}

// checkNoChances checks that the functions with years return a code and nothing else.
func checkNoChances(t *testing.T, c couple, years, want int64) {
	t.Helper()
	for _, f := range chances {
		if n, d, code := f.chance(c, years); n != 0 || d != 0 || code != want {
			t.Errorf("%s(%v, %d) = %d, %d, %d; want %d", f.name, c, years, n, d, code, want)
		}
	}
}

// checkNoJointPrices checks that the three annuities return a code and nothing else.
func checkNoJointPrices(t *testing.T, c couple, rate, amount, want int64) {
	t.Helper()
	for _, f := range jointAnnuities {
		if n, code := f.price(c, rate, amount); n != 0 || code != want {
			t.Errorf("%s(%v, %d, %d) = %d, %d; want %d", f.name, c, rate, amount, n, code, want)
		}
	}
}

// checkNoCouple checks that all functions return a code for a couple, also with other arguments at their limits.
func checkNoCouple(t *testing.T, c couple, want int64) {
	t.Helper()
	if j, code := joined(c); j.First != 0 || len(j.Lives) != 0 || code != want {
		t.Errorf("JointTable%v = %v, %d; want %d", c, j, code, want)
	}
	if n, d, code := widowYears(c); n != 0 || d != 0 || code != want {
		t.Errorf("WidowYears%v = %d, %d, %d; want %d", c, n, d, code, want)
	}
	for _, years := range []int64{0, 1, impl.MaxAge} {
		checkNoChances(t, c, years, want)
	}
	for _, rate := range []int64{0, 40, impl.MaxRate} {
		checkNoJointPrices(t, c, rate, 1, want)
		checkNoJointPrices(t, c, rate, maxPayment, want)
	}
}

// checkWrongRest checks that years, rates and amounts that are not in their ranges return a code for a couple.
func checkWrongRest(t *testing.T, c couple, want int64) {
	t.Helper()
	for _, years := range wrongYears {
		checkNoChances(t, c, years, want)
	}
	for _, rate := range noRates {
		checkNoJointPrices(t, c, rate, 1000, want)
		checkNoJointPrices(t, c, rate, 0, want)
	}
	for _, amount := range noPayments {
		checkNoJointPrices(t, c, 0, amount, want)
		checkNoJointPrices(t, c, impl.MaxRate, amount, want)
	}
}

// somePairs are pairs of sample tables, of which the later ones are made by chance.
func somePairs() [][2]impl.LifeTable {
	tables := sampleTables()
	pairs := [][2]impl.LifeTable{}
	for i, t := range tables {
		pairs = append(pairs, [2]impl.LifeTable{t, tables[(7*i+3)%len(tables)]})
	}
	return append(pairs, [2]impl.LifeTable{longTable, lateTable}, [2]impl.LifeTable{lateTable, longTable}, [2]impl.LifeTable{slowLives, longTable})
}

// wrongFirstAges are ages of the first life that are not in 0..100 or not in First..MaxAge.
func wrongFirstAges(x impl.LifeTable) []int64 {
	return append([]int64{101, 102, 148, 149, impl.MaxAge, 1 << 32}, wrongAges(x)...)
}

// TestWrongAgesOfTwo has ages of one life that are wrong, beside ages of the other with lives and with none, and such that
// are wrong, too.
func TestWrongAgesOfTwo(t *testing.T) {
	for _, p := range somePairs() {
		for _, x := range wrongFirstAges(p[0]) {
			for _, y := range append(agesToTry(p[1]), p[1].First-1, impl.MaxAge+1) {
				checkNoCouple(t, couple{p[0], x, p[1], y}, impl.ErrRange)
			}
			checkWrongRest(t, couple{p[0], x, p[1], p[1].First}, impl.ErrRange)
		}
		for _, y := range wrongAges(p[1]) {
			for _, x := range append(agesToTry(p[0]), p[0].First-1, 101) {
				checkNoCouple(t, couple{p[0], x, p[1], y}, impl.ErrRange)
			}
			checkWrongRest(t, couple{p[0], p[0].First, p[1], y}, impl.ErrRange)
		}
	}
}

// TestAgeOfTheFirstLife has the age 100 and the one beyond, at both of which lives may be left or not; the second life may
// be older.
func TestAgeOfTheFirstLife(t *testing.T) {
	for _, x := range []impl.LifeTable{longTable, lateTable, slowLives, level(99, 5, 3), level(99, 5, 4)} {
		c := couple{x, 100, longTable, 101}
		if j, code := joined(c); j.First != 100 || j.Lives[0] != leftAt(x, 100) || code != impl.ErrNone {
			t.Errorf("JointTable%v = %v, %d", c, j, code)
		}
		checkNoCouple(t, couple{x, 101, longTable, 101}, impl.ErrRange)
	}
	for _, x := range []impl.LifeTable{level(99, 5, 2), oldLives, table(0, 1, 0)} {
		checkNoCouple(t, couple{x, 100, longTable, 101}, impl.ErrState)
		checkNoCouple(t, couple{x, 101, longTable, 101}, impl.ErrRange)
	}
}

// TestWrongYearsRatesAndAmounts has them at ages with lives, and at ages at which no lives are left, which are wrong later.
func TestWrongYearsRatesAndAmounts(t *testing.T) {
	for _, p := range somePairs() {
		for _, x := range agesToTry(p[0]) {
			for _, y := range agesToTry(p[1]) {
				checkWrongRest(t, couple{p[0], x, p[1], y}, impl.ErrRange)
			}
		}
	}
}

// agesPastEnd are ages of a table at which no lives are left, up to a limit.
func agesPastEnd(x impl.LifeTable, limit int64) []int64 {
	end := endOf(x)
	return slices.DeleteFunc([]int64{end, end + 1, (end + limit) / 2, limit}, func(age int64) bool { return age < end || age > limit })
}

// TestNobodyLeftOfTwo has ages at which no lives are left of one of them, and of both.
func TestNobodyLeftOfTwo(t *testing.T) {
	for _, p := range somePairs() {
		for _, x := range agesPastEnd(p[0], 100) {
			for _, y := range agesToTry(p[1]) {
				checkNoCouple(t, couple{p[0], x, p[1], y}, impl.ErrState)
			}
		}
		for _, y := range agesPastEnd(p[1], impl.MaxAge) {
			for _, x := range []int64{p[0].First, min(endOf(p[0]), 101) - 1, min(endOf(p[0]), 100), 100} {
				checkNoCouple(t, couple{p[0], x, p[1], y}, impl.ErrState)
			}
		}
	}
}

// TestLivesWithoutDiscounts has ages y at which lives are left though D is 0: that counts for the three annuities only.
func TestLivesWithoutDiscounts(t *testing.T) {
	for y := int64(139); y < 150; y++ {
		c := couple{shortLives, 60, longTable, y}
		checkNoJointPrices(t, c, impl.MaxRate, 1, impl.ErrState)
		checkNoJointPrices(t, c, impl.MaxRate, maxPayment, impl.ErrState)
		checkWrongRest(t, c, impl.ErrRange)
		checkJointPrices(t, c, 0, 1)
		if j, code := joined(c); !sameTable(j, joinedByHand(c)) || code != impl.ErrNone {
			t.Errorf("JointTable%v = %v, %d", c, j, code)
		}
		for _, f := range chances {
			if n, d, code := f.chance(c, 0); n != 1 || d != 1 || code != impl.ErrNone {
				t.Errorf("%s(%v, 0) = %d, %d, %d", f.name, c, n, d, code)
			}
		}
		if _, _, code := widowYears(c); code != impl.ErrNone {
			t.Errorf("WidowYears%v: code %d", c, code)
		}
	}
	checkJointPrices(t, couple{shortLives, 60, longTable, 138}, impl.MaxRate, 1)
}

// TestNoTableIsTheFirstErrorOfTwo has one table that is none, or two, besides ages, years, rates and amounts that are wrong.
func TestNoTableIsTheFirstErrorOfTwo(t *testing.T) {
	ages := []int64{59, 60, 61, 64, 100, 101, impl.MaxAge, impl.MaxAge + 1, -1, math.MinInt64, math.MaxInt64}
	for name, none := range noTables() {
		t.Run(name, func(t *testing.T) {
			for _, age := range append(ages, none.First) {
				for _, c := range []couple{
					{none, age, oldLives, 60},
					{oldLives, 60, none, age},
					{none, age, oldLives, 59},
					{none, 60, oldLives, age},
					{oldLives, age, none, 60},
					{oldLives, 101, none, age},
					{none, age, none, age},
					{none, age, table(0, 1), 0},
				} {
					checkNoCouple(t, c, impl.ErrInvalid)
					checkWrongRest(t, c, impl.ErrInvalid)
				}
			}
		})
	}
}

// TestTwoLivesShareNoMemory has numbers before and behind the lives of both tables.
func TestTwoLivesShareNoMemory(t *testing.T) {
	firsts := []int64{700, 100, 90, 50, 0, 33, 22, 11}
	seconds := []int64{9, 9, 80, 60, 40, 20, 0, 5, 4}
	c := couple{impl.LifeTable{First: 60, Lives: firsts[1:5]}, 60, impl.LifeTable{First: 55, Lives: seconds[2:7]}, 55}
	check := func(what string) {
		t.Helper()
		if !slices.Equal(firsts, []int64{700, 100, 90, 50, 0, 33, 22, 11}) || !slices.Equal(seconds, []int64{9, 9, 80, 60, 40, 20, 0, 5, 4}) {
			t.Fatalf("%s: %v, %v", what, firsts, seconds)
		}
	}
	first, _ := joined(c)
	second, _ := joined(c)
	for _, f := range chances {
		f.chance(c, 1)
	}
	for _, f := range jointAnnuities {
		f.price(c, 40, 1000)
	}
	widowYears(c)
	check("an argument is changed")
	all := first.Lives[:cap(first.Lives)]
	for i := range all {
		all[i] = -9
	}
	check("a result shares the memory of an argument")
	third, _ := joined(c)
	if s := impl.TableText(second); s != "60 100 67 25 0" {
		t.Errorf("two results share memory: %v", second)
	}
	if s := impl.TableText(third); s != "60 100 67 25 0" {
		t.Errorf("a result is kept: %v", third)
	}
	// The partners do not die: the joint table has the numbers of the first one, but not its memory.
	same, _ := impl.JointTable(c.t, 60, longTable, 31)
	same.Lives[0] = -9
	check("a joint table is the given one")
	only := table(60, 100, 90, 50, 0)
	again, code := impl.JointTable(only, 60, only, 60)
	if s := impl.TableText(again); s != "60 100 81 25 0" || code != impl.ErrNone || impl.TableText(only) != "60 100 90 50 0" {
		t.Errorf("a table joined with itself is %v, %d; it is %v now", again, code, only)
	}
}

func TestTwoLivesKeepNothing(t *testing.T) {
	checkKeepsNothing(t, func(x impl.LifeTable, rate int64) string {
		c := couple{oldLives, 60, x, x.First}
		j, _ := joined(c)
		last, code := impl.LastAnnuity(c.t, c.x, c.u, c.y, rate, 1000)
		n, d, _ := impl.OneAlive(c.t, c.x, c.u, c.y, rate%4)
		return fmt.Sprint(j, last, code, n, d)
	})
}
