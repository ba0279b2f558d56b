package tests

import (
	"fmt"
	"math"
	"math/rand"
	"regexp"
	"slices"
	"strings"
	"testing"

	"loop.example/g01025/impl"
)

// The limits of chapter 13, which have no names in the package.
const (
	maxShares     = 1000
	maxChest      = 1000000000000
	maxIncome     = 100000000
	maxClassYears = 100
	maxTold       = 2 * impl.MaxClass
)

// Numbers that are not in the ranges of chapter 13.
var (
	noShares  = []int64{0, -1, maxShares + 1, -maxShares, 1<<32 + 1, math.MinInt64, math.MinInt64 + 1, math.MaxInt64 - 1, math.MaxInt64}
	noChests  = []int64{-1, maxChest + 1, -maxChest, math.MinInt64, math.MinInt64 + 1, math.MaxInt64 - 1, math.MaxInt64}
	noIncomes = []int64{-1, maxIncome + 1, -maxIncome, maxChest, 1<<32 + 1, math.MinInt64, math.MinInt64 + 1, math.MaxInt64 - 1, math.MaxInt64}
)

// noMembers are no numbers of members of a class with n members.
func noMembers(n int) []int64 {
	return []int64{-1, int64(n), int64(n) + 1, -int64(n), impl.MaxClass, 1 << 32, math.MinInt64, math.MinInt64 + 1, math.MaxInt64 - 1, math.MaxInt64}
}

// class returns a value of the type Class, which need not be valid.
func class(chest int64, shares []int64, dead ...int64) impl.Class {
	return impl.Class{Shares: shares, Dead: dead, Chest: chest}
}

// classOf returns the class that a text tells, which need not be the text of a class.
func classOf(text string) impl.Class {
	c := impl.Class{}
	for i, word := range strings.Fields(text) {
		n := int64(0)
		fmt.Sscan(word, &n)
		switch {
		case i == 0:
			c.Chest = n
		case n < 0:
			c.Dead = append(c.Dead, int64(i-1))
			c.Shares = append(c.Shares, -n)
		default:
			c.Shares = append(c.Shares, n)
		}
	}
	return c
}

// textOf returns the text of a valid class.
func textOf(c impl.Class) string {
	text := fmt.Sprint(c.Chest)
	for i, shares := range c.Shares {
		if slices.Contains(c.Dead, int64(i)) {
			text += fmt.Sprint(" -", shares)
		} else {
			text += fmt.Sprint(" ", shares)
		}
	}
	return text
}

func sameClass(a, b impl.Class) bool {
	return a.Chest == b.Chest && slices.Equal(a.Shares, b.Shares) && slices.Equal(a.Dead, b.Dead)
}

// firstNumbers returns the numbers 0 to n - 1.
func firstNumbers(n int) []int64 {
	list := make([]int64, n)
	for i := range list {
		list[i] = int64(i)
	}
	return list
}

// without returns the numbers of a list but for one of them.
func without(list []int64, number int64) []int64 {
	return slices.DeleteFunc(slices.Clone(list), func(n int64) bool { return n == number })
}

// randomClass returns a valid class that is made by chance.
func randomClass(random *rand.Rand) impl.Class {
	n := []int{1, 2, 3, 5, 1 + random.Intn(impl.MaxClass), impl.MaxClass}[random.Intn(6)]
	top := []int64{1, 3, maxShares}[random.Intn(3)]
	deaths := []int{0, 30, 90, 100}[random.Intn(4)]
	c := class([]int64{0, random.Int63n(10), random.Int63n(100000), random.Int63n(maxChest + 1), maxChest - random.Int63n(3*maxIncome), maxChest}[random.Intn(6)], nil)
	for i := range n {
		c.Shares = append(c.Shares, 1+random.Int63n(top))
		if random.Intn(100) < deaths {
			c.Dead = append(c.Dead, int64(i))
		}
	}
	return c
}

// sampleClasses are valid classes at the limits and between them.
func sampleClasses() []impl.Class {
	everybody := firstNumbers(impl.MaxClass)
	list := []impl.Class{
		class(0, []int64{1}),
		class(maxChest, []int64{maxShares}),
		class(0, []int64{1}, 0),
		class(maxChest, []int64{maxShares}, 0),
		class(2, []int64{3, 1, 4}, 1),
		class(2, []int64{3, 1, 4}, 0, 1),
		class(2, []int64{3, 1, 4}, 0, 2),
		class(2, []int64{3, 1, 4}, 0, 1, 2),
		class(7, []int64{5, 5, 5}),
		class(0, fill(impl.MaxClass, 1)),
		class(maxChest, fill(impl.MaxClass, maxShares)),
		class(maxChest-1, fill(impl.MaxClass, maxShares), everybody...),
		class(1, fill(impl.MaxClass, 7), everybody[1:]...),
		class(1, fill(impl.MaxClass, 7), everybody[:impl.MaxClass-1]...),
		class(1, fill(impl.MaxClass, 7), without(everybody, 30)...),
		class(59999, fill(impl.MaxClass, maxShares), 30),
	}
	random := rand.New(rand.NewSource(131))
	for range 60 {
		list = append(list, randomClass(random))
	}
	return list
}

// noClasses are values that are no valid classes.
func noClasses() map[string]impl.Class {
	most := firstNumbers(impl.MaxClass)
	return map[string]impl.Class{
		"zero value":               {},
		"nobody":                   class(5, nil),
		"nobody, with room":        {Shares: []int64{5, 6}[:0], Chest: 5},
		"nobody, and dead":         class(5, nil, 0),
		"61 members":               class(5, fill(impl.MaxClass+1, 7)),
		"61 members, one dead":     class(5, fill(impl.MaxClass+1, 7), 60),
		"very many members":        class(5, fill(5000, 7)),
		"no shares":                class(5, []int64{0}),
		"no shares first":          class(5, []int64{0, 3, 4}),
		"no shares between":        class(5, []int64{3, 0, 4}, 0),
		"no shares last":           class(5, []int64{3, 4, 0}),
		"no shares, dead":          class(5, []int64{3, 4, 0}, 2),
		"1001 shares":              class(5, []int64{maxShares + 1}),
		"1001 shares last":         class(5, []int64{3, 4, maxShares + 1}),
		"negative shares":          class(5, []int64{3, -4}),
		"negative shares, dead":    class(5, []int64{3, -4}, 1),
		"least shares":             class(5, []int64{3, math.MinInt64}, 1),
		"greatest shares":          class(5, []int64{math.MaxInt64, math.MaxInt64}),
		"one dead twice":           class(5, []int64{3, 4, 5}, 1, 1),
		"one dead twice, 0":        class(5, []int64{3, 4, 5}, 0, 0),
		"one dead twice, last":     class(5, []int64{3, 4, 5}, 0, 2, 2),
		"dead falling":             class(5, []int64{3, 4, 5}, 1, 0),
		"dead falling, last":       class(5, []int64{3, 4, 5}, 0, 2, 1),
		"dead falling, first":      class(5, []int64{3, 4, 5}, 2, 0, 1),
		"-1 is dead":               class(5, []int64{3, 4, 5}, -1),
		"-1 and 0 are dead":        class(5, []int64{3, 4, 5}, -1, 0),
		"3 of 3 is dead":           class(5, []int64{3, 4, 5}, 3),
		"3 of 3 is dead, too":      class(5, []int64{3, 4, 5}, 0, 1, 2, 3),
		"1 of 1 is dead":           class(5, []int64{3}, 1),
		"60 of 60 is dead":         class(5, fill(impl.MaxClass, 7), impl.MaxClass),
		"least number is dead":     class(5, []int64{3, 4, 5}, math.MinInt64),
		"greatest number is dead":  class(5, []int64{3, 4, 5}, 0, math.MaxInt64),
		"very many dead":           class(5, []int64{3, 4, 5}, firstNumbers(5000)...),
		"all dead twice":           class(5, fill(impl.MaxClass, 7), append(slices.Clone(most), most...)...),
		"chest of -1":              class(-1, []int64{3, 4, 5}, 1),
		"chest of 1000000000001":   class(maxChest+1, []int64{3, 4, 5}, 1),
		"least chest":              class(math.MinInt64, []int64{3, 4, 5}),
		"greatest chest":           class(math.MaxInt64, []int64{3, 4, 5}),
		"chest of -1, nobody left": class(-1, []int64{3}, 0),
		"all wrong":                class(-1, []int64{0, maxShares + 1}, 5, 5, -1),
	}
}

// byChanceClasses calls try for many valid classes that are made by chance.
func byChanceClasses(seed int64, try func(random *rand.Rand, c impl.Class)) {
	random := rand.New(rand.NewSource(seed))
	for range 20000 {
		try(random, randomClass(random))
	}
}

// tontineByHand is a class that is reckoned member by member: the shares of each, who lives, and what each has got.
type tontineByHand struct {
	shares []int64
	alive  []bool
	got    []int64
	chest  int64
}

// tontineOf begins the reckoning of a valid class.
func tontineOf(c impl.Class) *tontineByHand {
	h := &tontineByHand{shares: c.Shares, got: make([]int64, len(c.Shares)), chest: c.Chest}
	for i := range c.Shares {
		h.alive = append(h.alive, !slices.Contains(c.Dead, int64(i)))
	}
	return h
}

// class returns the class as it is now.
func (h *tontineByHand) class() impl.Class {
	c := class(h.chest, h.shares)
	for i, lives := range h.alive {
		if !lives {
			c.Dead = append(c.Dead, int64(i))
		}
	}
	return c
}

// living returns the number of shares of the living.
func (h *tontineByHand) living() int64 {
	sum := int64(0)
	for i, lives := range h.alive {
		if lives {
			sum += h.shares[i]
		}
	}
	return sum
}

// bury lets members die who have such numbers.
func (h *tontineByHand) bury(members []int64) int64 {
	for _, number := range members {
		if !h.alive[number] {
			return impl.ErrState
		}
		h.alive[number] = false
	}
	return impl.ErrNone
}

// pay divides an income that is in its range.
func (h *tontineByHand) pay(income int64) int64 {
	h.chest += income
	whole, living := h.chest, h.living()
	for i, lives := range h.alive {
		if lives {
			h.got[i] += whole / living * h.shares[i]
			h.chest -= whole / living * h.shares[i]
		}
	}
	if h.chest > maxChest {
		return impl.ErrLimit
	}
	return impl.ErrNone
}

// areMembers reports whether members may be told as they are, but for who is dead or told twice.
func (h *tontineByHand) areMembers(members []int64) bool {
	return len(members) <= maxTold && !slices.ContainsFunc(members, func(n int64) bool { return n < 0 || n >= int64(len(h.shares)) })
}

// run goes through a history and returns its error or ErrNone.
func (h *tontineByHand) run(incomes []int64, deaths [][]int64) int64 {
	if len(incomes) > maxClassYears || len(incomes) != len(deaths) {
		return impl.ErrRange
	}
	for i := range incomes {
		if incomes[i] < 0 || incomes[i] > maxIncome || !h.areMembers(deaths[i]) {
			return impl.ErrRange
		}
	}
	for i := range incomes {
		if code := h.bury(deaths[i]); code != impl.ErrNone {
			return code
		}
		if code := h.pay(incomes[i]); code != impl.ErrNone {
			return code
		}
	}
	return impl.ErrNone
}

// checkBuried compares the class after members have died; beside an error it has to be the zero value.
func checkBuried(t *testing.T, c impl.Class, members []int64, want impl.Class, wantCode int64) {
	t.Helper()
	if got, code := impl.BuryMembers(c, members); !sameClass(got, want) || code != wantCode {
		t.Errorf("BuryMembers(%v, %v) = %v, %d; want %v, %d", c, members, got, code, want, wantCode)
	}
}

// checkPaid compares the class after an income, and what each member gets.
func checkPaid(t *testing.T, c impl.Class, income int64, want impl.Class, wantPaid []int64, wantCode int64) {
	t.Helper()
	if got, paid, code := impl.PayIncome(c, income); !sameClass(got, want) || !slices.Equal(paid, wantPaid) || code != wantCode {
		t.Errorf("PayIncome(%v, %d) = %v, %v, %d; want %v, %v, %d", c, income, got, paid, code, want, wantPaid, wantCode)
	}
}

// checkRun compares the class after a history, and what each member has got.
func checkRun(t *testing.T, c impl.Class, incomes []int64, deaths [][]int64, want impl.Class, wantPaid []int64, wantCode int64) {
	t.Helper()
	if got, paid, code := impl.RunClass(c, incomes, deaths); !sameClass(got, want) || !slices.Equal(paid, wantPaid) || code != wantCode {
		t.Errorf("RunClass(%v, %v, %v) = %v, %v, %d; want %v, %v, %d", c, incomes, deaths, got, paid, code, want, wantPaid, wantCode)
	}
}

// checkNobodyBuried checks that BuryMembers returns an error and nothing else.
func checkNobodyBuried(t *testing.T, c impl.Class, members []int64, want int64) {
	t.Helper()
	checkBuried(t, c, members, impl.Class{}, want)
}

// checkNothingPaid checks that PayIncome returns an error and nothing else.
func checkNothingPaid(t *testing.T, c impl.Class, income, want int64) {
	t.Helper()
	checkPaid(t, c, income, impl.Class{}, nil, want)
}

// checkNotRun checks that RunClass returns an error and nothing else.
func checkNotRun(t *testing.T, c impl.Class, incomes []int64, deaths [][]int64, want int64) {
	t.Helper()
	checkRun(t, c, incomes, deaths, impl.Class{}, nil, want)
}

func TestTontinesConstant(t *testing.T) {
	if impl.MaxClass != 60 {
		t.Errorf("MaxClass = %d", impl.MaxClass)
	}
}

func TestIsClass(t *testing.T) {
	for _, c := range sampleClasses() {
		if !impl.IsClass(c) {
			t.Errorf("IsClass(%v) is false", c)
		}
	}
	for name, c := range noClasses() {
		if impl.IsClass(c) {
			t.Errorf("%s: IsClass(%v) is true", name, c)
		}
	}
}

// TestSizesOfClasses tries all numbers of members and, of each, all numbers of dead ones.
func TestSizesOfClasses(t *testing.T) {
	for n := range 125 {
		for dead := range n + 3 {
			want := n >= 1 && n <= 60 && dead <= n
			if got := impl.IsClass(class(7, fill(n, 7), firstNumbers(dead)...)); got != want {
				t.Errorf("IsClass is %v for %d members of whom the first %d are dead", got, n, dead)
			}
		}
	}
}

// TestSharesOfClasses has the shares of one member at their limits and one beyond, at all places of a class.
func TestSharesOfClasses(t *testing.T) {
	for _, n := range []int{1, 2, 3, impl.MaxClass} {
		for i := range n {
			for _, c := range []impl.Class{class(7, fill(n, 7)), class(7, fill(n, 7), int64(i))} {
				for _, shares := range []int64{1, 2, maxShares - 1, maxShares} {
					c.Shares[i] = shares
					if !impl.IsClass(c) {
						t.Errorf("IsClass is false for %v", c)
					}
				}
				for _, shares := range noShares {
					c.Shares[i] = shares
					if impl.IsClass(c) {
						t.Errorf("IsClass is true for %v", c)
					}
				}
			}
		}
	}
}

func TestChestsOfClasses(t *testing.T) {
	for _, dead := range [][]int64{nil, {1}, {0, 1, 2}} {
		for _, chest := range []int64{0, 1, 1 << 32, maxChest - 1, maxChest} {
			if c := class(chest, []int64{3, 1, 4}, dead...); !impl.IsClass(c) {
				t.Errorf("IsClass is false for %v", c)
			}
		}
		for _, chest := range noChests {
			if c := class(chest, []int64{3, 1, 4}, dead...); impl.IsClass(c) {
				t.Errorf("IsClass is true for %v", c)
			}
		}
	}
}

// listsOf calls try for all lists of at most n numbers in -1..most.
func listsOf(n int, most int64, try func(list []int64)) {
	lists := [][]int64{{}}
	for range n + 1 {
		longer := [][]int64{}
		for _, list := range lists {
			try(list)
			for number := int64(-1); number <= most; number++ {
				longer = append(longer, append(slices.Clone(list), number))
			}
		}
		lists = longer
	}
}

// TestDeadOfClasses tries all short lists of the dead of small classes.
func TestDeadOfClasses(t *testing.T) {
	valid := 0
	for n := 1; n <= 3; n++ {
		listsOf(5, int64(n), func(dead []int64) {
			want := true
			for i, number := range dead {
				want = want && number >= 0 && number < int64(n) && (i == 0 || number > dead[i-1])
			}
			if got := impl.IsClass(class(7, fill(n, 7), dead...)); got != want {
				t.Errorf("IsClass is %v for %d members and the dead %v", got, n, dead)
			}
			if want {
				valid++
			}
		})
	}
	if valid != 2+4+8 {
		t.Errorf("%d lists are valid", valid)
	}
	for _, n := range []int{1, 2, 3, 30, impl.MaxClass} {
		for _, number := range noMembers(n) {
			for _, dead := range [][]int64{{number}, append(firstNumbers(n), number), append([]int64{number}, firstNumbers(n)...)} {
				if impl.IsClass(class(7, fill(n, 7), dead...)) {
					t.Errorf("IsClass is true for %d members and the dead %v", n, dead)
				}
			}
		}
	}
}

func TestLivingSharesExamples(t *testing.T) {
	for _, c := range []struct {
		text string
		want int64
	}{
		{"2 3 -1 4", 7},
		{"0 1", 1},
		{"0 -1", 0},
		{"5 3 1 4", 8},
		{"5 -3 1 4", 5},
		{"5 3 1 -4", 4},
		{"5 -3 -1 4", 4},
		{"5 3 -1 -4", 3},
		{"5 -3 1 -4", 1},
		{"1000000000000 -3 -1 -4", 0},
		{"1000000000000 1000 -999 1000", 2000},
		{"0" + strings.Repeat(" 1", 60), 60},
		{"0" + strings.Repeat(" 1000", 60), 60000},
		{"0 -1000" + strings.Repeat(" 1000", 59), 59000},
		{"0" + strings.Repeat(" -1000", 59) + " 7", 7},
		{"0" + strings.Repeat(" -1000", 60), 0},
	} {
		if n, code := impl.LivingShares(classOf(c.text)); n != c.want || code != impl.ErrNone {
			t.Errorf("LivingShares of %q = %d, %d; want %d", c.text, n, code, c.want)
		}
	}
}

func TestLivingSharesByHand(t *testing.T) {
	byChanceClasses(132, func(_ *rand.Rand, c impl.Class) {
		if n, code := impl.LivingShares(c); n != tontineOf(c).living() || code != impl.ErrNone {
			t.Errorf("LivingShares(%v) = %d, %d; want %d", c, n, code, tontineOf(c).living())
		}
	})
}

func TestBuryMembersExamples(t *testing.T) {
	for _, c := range []struct {
		text    string
		members []int64
		want    string
	}{
		// None of them, one, some in any order, all of the living.
		{"2 3 -1 4", nil, "2 3 -1 4"},
		{"2 3 -1 4", []int64{}, "2 3 -1 4"},
		{"2 3 -1 4", []int64{0}, "2 -3 -1 4"},
		{"2 3 -1 4", []int64{2}, "2 3 -1 -4"},
		{"2 3 -1 4", []int64{0, 2}, "2 -3 -1 -4"},
		{"2 3 -1 4", []int64{2, 0}, "2 -3 -1 -4"},
		{"2 3 1 4", []int64{1}, "2 3 -1 4"},
		{"2 3 1 4", []int64{0, 1, 2}, "2 -3 -1 -4"},
		{"2 3 1 4", []int64{2, 1, 0}, "2 -3 -1 -4"},
		{"2 3 1 4", []int64{1, 2, 0}, "2 -3 -1 -4"},
		{"0 1", nil, "0 1"},
		{"0 1", []int64{0}, "0 -1"},
		// Nobody lives any more.
		{"7 -3 -1 -4", nil, "7 -3 -1 -4"},
		// Members with equal shares.
		{"5 2 2 2 2 2", []int64{3}, "5 2 2 2 -2 2"},
		{"5 2 2 2 2 2", []int64{4, 0}, "5 -2 2 2 2 -2"},
		{"5 2 -2 2 2 -2", []int64{3, 2}, "5 2 -2 -2 -2 -2"},
		// The chest stays as it is.
		{"1000000000000 1000 1", []int64{0}, "1000000000000 -1000 1"},
		{"1000000000000 1000 1", []int64{1, 0}, "1000000000000 -1000 -1"},
	} {
		checkBuried(t, classOf(c.text), c.members, classOf(c.want), impl.ErrNone)
	}
	everybody := firstNumbers(impl.MaxClass)
	checkBuried(t, class(9, fill(impl.MaxClass, 7)), everybody, class(9, fill(impl.MaxClass, 7), everybody...), impl.ErrNone)
	backward := slices.Clone(everybody)
	slices.Reverse(backward)
	checkBuried(t, class(9, fill(impl.MaxClass, 7)), backward, class(9, fill(impl.MaxClass, 7), everybody...), impl.ErrNone)
	checkBuried(t, class(9, fill(impl.MaxClass, 7), everybody[:30]...), backward[:30], class(9, fill(impl.MaxClass, 7), everybody...), impl.ErrNone)
}

// TestBuryMembersOfSmallClasses tries all short lists of members for all sets of dead ones.
func TestBuryMembersOfSmallClasses(t *testing.T) {
	tried := sorts{}
	for _, text := range []string{"8 5 7 9", "8 5 5 5", "8 -5 7 9", "8 5 -5 5", "8 5 7 -9", "8 -5 -7 9", "8 -5 5 -5", "8 5 -7 -9", "8 -5 -7 -9", "3 2", "3 -2", "3 2 1", "3 2 -1"} {
		c := classOf(text)
		listsOf(4, int64(len(c.Shares)), func(members []int64) {
			h, code := tontineOf(c), int64(impl.ErrRange)
			if h.areMembers(members) {
				code = h.bury(members)
			}
			tried.count(fmt.Sprint(code), true)
			if code != impl.ErrNone {
				checkNobodyBuried(t, c, members, code)
				return
			}
			checkBuried(t, c, members, h.class(), impl.ErrNone)
		})
	}
	tried.checkAll(t, fmt.Sprint(impl.ErrNone), fmt.Sprint(impl.ErrRange), fmt.Sprint(impl.ErrState))
}

func TestBuryMembersByHand(t *testing.T) {
	byChanceClasses(133, func(random *rand.Rand, c impl.Class) {
		members := deathsByChance(random, c)
		h := tontineOf(c)
		if code := h.bury(members); code != impl.ErrNone {
			t.Fatalf("%v cannot die in %v", members, c)
		}
		checkBuried(t, c, members, h.class(), impl.ErrNone)
	})
}

// deathsByChance returns some of the living members of a class, in any order.
func deathsByChance(random *rand.Rand, c impl.Class) []int64 {
	members, chance := []int64{}, 1+random.Intn(10)
	for _, i := range random.Perm(len(c.Shares)) {
		if !slices.Contains(c.Dead, int64(i)) && random.Intn(10) < chance {
			members = append(members, int64(i))
		}
	}
	return members
}

func TestBuryMembersErrors(t *testing.T) {
	c := classOf("2 3 -1 4")
	for _, x := range []struct {
		members []int64
		want    int64
	}{
		// Dead already, told twice, and both.
		{[]int64{1}, impl.ErrState},
		{[]int64{0, 1}, impl.ErrState},
		{[]int64{1, 0}, impl.ErrState},
		{[]int64{0, 1, 2}, impl.ErrState},
		{[]int64{0, 0}, impl.ErrState},
		{[]int64{2, 2}, impl.ErrState},
		{[]int64{0, 2, 0}, impl.ErrState},
		{[]int64{2, 0, 0}, impl.ErrState},
		{[]int64{1, 1}, impl.ErrState},
		{[]int64{0, 0, 1, 1, 2, 2}, impl.ErrState},
		// Numbers that no member has come first, wherever they are told.
		{[]int64{3}, impl.ErrRange},
		{[]int64{-1}, impl.ErrRange},
		{[]int64{1, 3}, impl.ErrRange},
		{[]int64{3, 1}, impl.ErrRange},
		{[]int64{0, 0, -1}, impl.ErrRange},
		{[]int64{0, 0, 3, 0}, impl.ErrRange},
		{[]int64{-1, -1}, impl.ErrRange},
		{[]int64{3, 3}, impl.ErrRange},
	} {
		checkNobodyBuried(t, c, x.members, x.want)
	}
	for _, n := range []int{1, 2, 3, 30, impl.MaxClass} {
		for _, number := range noMembers(n) {
			checkNobodyBuried(t, class(7, fill(n, 7)), []int64{number}, impl.ErrRange)
			checkNobodyBuried(t, class(7, fill(n, 7)), append(firstNumbers(n), number), impl.ErrRange)
			checkNobodyBuried(t, class(7, fill(n, 7), firstNumbers(n)...), append(firstNumbers(n), number), impl.ErrRange)
		}
	}
}

// TestManyMembersTold has numbers of members told about the greatest one. A class has only half as many, so that the greatest
// number is an error, too, but another one.
func TestManyMembersTold(t *testing.T) {
	for _, n := range []int{1, 2, impl.MaxClass - 1, impl.MaxClass} {
		living := class(7, fill(n, 7))
		for _, c := range []impl.Class{living, class(7, fill(n, 7), 0), class(7, fill(n, 7), firstNumbers(n)...)} {
			for told, want := range map[int]int64{n + 1: impl.ErrState, 61: impl.ErrState, 119: impl.ErrState, 120: impl.ErrState, 121: impl.ErrRange, 5000: impl.ErrRange} {
				members := fill(told, 0)
				checkNobodyBuried(t, c, members, want)
				checkNotRun(t, c, []int64{5}, [][]int64{members}, want)
				for i := range members {
					members[i] = int64(i % n)
				}
				checkNobodyBuried(t, c, members, want)
				checkNotRun(t, c, []int64{5}, [][]int64{members}, want)
				members[told-1] = int64(n)
				checkNobodyBuried(t, c, members, impl.ErrRange)
				checkNotRun(t, c, []int64{5}, [][]int64{members}, impl.ErrRange)
			}
		}
	}
}

// TestPayIncomeExamples has numbers that a program in another language has reckoned.
func TestPayIncomeExamples(t *testing.T) {
	for _, c := range []struct {
		text   string
		income int64
		want   string
		paid   []int64
	}{
		{"2 3 -1 4", 100, "4 3 -1 4", []int64{42, 0, 56}},
		{"2 3 -1 4", 0, "2 3 -1 4", []int64{0, 0, 0}},
		{"0 1", 0, "0 1", []int64{0}},
		{"0 1", 1, "0 1", []int64{1}},
		{"0 1", 100000000, "0 1", []int64{100000000}},
		{"0 7", 100, "2 7", []int64{98}},
		{"7 7", 0, "0 7", []int64{7}},
		{"6 7", 0, "6 7", []int64{0}},
		{"6 7", 1, "0 7", []int64{7}},
		{"0 1 1", 100, "0 1 1", []int64{50, 50}},
		{"0 1 1", 101, "1 1 1", []int64{50, 50}},
		{"5 2 3", 95, "0 2 3", []int64{40, 60}},
		{"5 2 3", 96, "1 2 3", []int64{40, 60}},
		{"5 2 3", 99, "4 2 3", []int64{40, 60}},
		{"3 2 3", 1, "4 2 3", []int64{0, 0}},
		{"4 2 3", 1, "0 2 3", []int64{2, 3}},
		{"4 2 3", 0, "4 2 3", []int64{0, 0}},
		{"0 2 3", 0, "0 2 3", []int64{0, 0}},
		{"0 1000 1000", 1999, "1999 1000 1000", []int64{0, 0}},
		{"0 1000 1000", 2000, "0 1000 1000", []int64{1000, 1000}},
		{"1999 1000 1000", 0, "1999 1000 1000", []int64{0, 0}},
		{"1999 1000 1000", 1, "0 1000 1000", []int64{1000, 1000}},
		{"9 -2 -3", 100, "109 -2 -3", []int64{0, 0}},
		{"9 -2", 0, "9 -2", []int64{0}},
		{"0 -2 -3", 0, "0 -2 -3", []int64{0, 0}},
		{"0 -7 3", 10, "1 -7 3", []int64{0, 9}},
		{"0 7 -3", 10, "3 7 -3", []int64{7, 0}},
		{"1 7 -3", 6, "0 7 -3", []int64{7, 0}},
		{"0 -1 -1 5 -1", 24, "4 -1 -1 5 -1", []int64{0, 0, 20, 0}},
		{"0 5 -1 -1 -1", 24, "4 5 -1 -1 -1", []int64{20, 0, 0, 0}},
		{"0 -1 -1 -1 5", 24, "4 -1 -1 -1 5", []int64{0, 0, 0, 20}},
		{"0 10 20 30 40", 12345, "45 10 20 30 40", []int64{1230, 2460, 3690, 4920}},
		{"0 10 -20 30 -40", 12345, "25 10 -20 30 -40", []int64{3080, 0, 9240, 0}},
		{"0 -10 20 -30 40", 12345, "45 -10 20 -30 40", []int64{0, 4100, 0, 8200}},
		{"99 1 1000", 100000000, "199 1 1000", []int64{99900, 99900000}},
		{"0 999 1000", 99999999, "24 999 1000", []int64{49974975, 50025000}},
		{"1 2 3 4 5 6 7", 99999999, "19 2 3 4 5 6 7", []int64{7407406, 11111109, 14814812, 18518515, 22222218, 25925921}},
		{"1000000000000 1", 0, "0 1", []int64{1000000000000}},
		{"1000000000000 1", 1, "0 1", []int64{1000000000001}},
		{"1000000000000 1", 100000000, "0 1", []int64{1000100000000}},
		{"999999999999 1000", 0, "999 1000", []int64{999999999000}},
		{"1000000000000 7 -9 1000", 100000000, "252 7 -9 1000", []int64{6952035748, 0, 993147964000}},
		{"1000000000000 -5 3 3", 99999999, "1 -5 3 3", []int64{0, 500049999999, 500049999999}},
		{"999900000000 -1", 100000000, "1000000000000 -1", []int64{0}},
		{"999999999999 -4 -5", 1, "1000000000000 -4 -5", []int64{0, 0}},
		{"1000000000000 -4 -5", 0, "1000000000000 -4 -5", []int64{0, 0}},
		{"999900000000 -1", 99999999, "999999999999 -1", []int64{0}},
		{"0 -1", 100000000, "100000000 -1", []int64{0}},
	} {
		checkPaid(t, classOf(c.text), c.income, classOf(c.want), c.paid, impl.ErrNone)
	}
	checkPaid(t, class(0, fill(impl.MaxClass, maxShares)), maxIncome, class(40000, fill(impl.MaxClass, maxShares)), fill(impl.MaxClass, 1666000), impl.ErrNone)
	checkPaid(t, class(maxChest, fill(impl.MaxClass, maxShares)), maxIncome, class(20000, fill(impl.MaxClass, maxShares)), fill(impl.MaxClass, 16668333000), impl.ErrNone)
	checkPaid(t, class(59999, fill(impl.MaxClass, maxShares)), 0, class(59999, fill(impl.MaxClass, maxShares)), fill(impl.MaxClass, 0), impl.ErrNone)
	checkPaid(t, class(59999, fill(impl.MaxClass, maxShares)), 1, class(0, fill(impl.MaxClass, maxShares)), fill(impl.MaxClass, maxShares), impl.ErrNone)
	checkPaid(t, class(0, fill(impl.MaxClass, 1)), 60, class(0, fill(impl.MaxClass, 1)), fill(impl.MaxClass, 1), impl.ErrNone)
}

// checkDivided checks what PayIncome returns by what it means: no other payments and no other rest have these properties.
func checkDivided(t *testing.T, c impl.Class, income int64) {
	t.Helper()
	after, paid, code := impl.PayIncome(c, income)
	if code != impl.ErrNone || len(paid) != len(c.Shares) || !slices.Equal(after.Shares, c.Shares) || !slices.Equal(after.Dead, c.Dead) {
		t.Fatalf("PayIncome(%v, %d) = %v, %v, %d", c, income, after, paid, code)
	}
	each, sum, living := int64(-1), int64(0), int64(0)
	for i, cents := range paid {
		sum += cents
		if slices.Contains(c.Dead, int64(i)) {
			if cents != 0 {
				t.Errorf("PayIncome(%v, %d) = %v, %v: a dead member gets something", c, income, after, paid)
			}
			continue
		}
		living += c.Shares[i]
		if each < 0 {
			each = cents / c.Shares[i]
		}
		if cents != each*c.Shares[i] {
			t.Errorf("PayIncome(%v, %d) = %v, %v: shares do not get the same", c, income, after, paid)
		}
	}
	if sum+after.Chest != c.Chest+income || after.Chest < 0 {
		t.Errorf("PayIncome(%v, %d) = %v, %v: cents are lost or won", c, income, after, paid)
	}
	if living > 0 && after.Chest >= living {
		t.Errorf("PayIncome(%v, %d) = %v, %v: there is enough for another cent", c, income, after, paid)
	}
}

// TestIncomesOfSmallClasses tries small incomes of all small classes.
func TestIncomesOfSmallClasses(t *testing.T) {
	for _, text := range []string{"1", "2", "1 1", "1 2", "3 1", "1 1 1", "2 1 3", "3 3 2"} {
		c := classOf("0 " + text)
		for dead := range 1 << len(c.Shares) {
			c.Dead = nil
			for i := range c.Shares {
				if dead>>i&1 == 1 {
					c.Dead = append(c.Dead, int64(i))
				}
			}
			for chest := range int64(20) {
				c.Chest = chest
				for income := range int64(20) {
					checkDivided(t, c, income)
				}
			}
		}
	}
}

// incomeByChance returns an income in its range.
func incomeByChance(random *rand.Rand) int64 {
	return []int64{0, 1, random.Int63n(100), random.Int63n(100000), random.Int63n(maxIncome + 1), maxIncome}[random.Intn(6)]
}

// TestEveryCentIsPaidOrKept checks promise 13 for single incomes, and that each sort of chest occurs.
func TestEveryCentIsPaidOrKept(t *testing.T) {
	tried := sorts{}
	byChanceClasses(134, func(random *rand.Rand, c impl.Class) {
		income, living := incomeByChance(random), tontineOf(c).living()
		whole := c.Chest + income
		tried.count("nobody lives", living == 0)
		tried.count("one lives", len(c.Shares) == len(c.Dead)+1)
		tried.count("some are dead", living > 0 && len(c.Dead) > 0)
		tried.count("a full chest of the living", living > 0 && whole > maxChest)
		tried.count("less than the shares", whole > 0 && whole < living)
		tried.count("a rest", whole > living && living > 0 && whole%living > 0)
		tried.count("no rest", whole > 0 && living > 1 && whole%living == 0)
		if living == 0 && whole > maxChest {
			tried.count("too much", true)
			checkNothingPaid(t, c, income, impl.ErrLimit)
			return
		}
		checkDivided(t, c, income)
		h := tontineOf(c)
		h.pay(income)
		checkPaid(t, c, income, h.class(), h.got, impl.ErrNone)
	})
	tried.checkAll(t, "nobody lives", "one lives", "some are dead", "a full chest of the living", "less than the shares", "a rest", "no rest", "too much")
}

// TestFullChests has chests and incomes of classes in which nobody lives any more, and of others with one living member.
func TestFullChests(t *testing.T) {
	for _, c := range []struct{ chest, income int64 }{
		{maxChest, 1}, {maxChest, 2}, {maxChest, maxIncome}, {maxChest - 1, 2}, {maxChest - maxIncome, maxIncome}, {maxChest - maxIncome + 1, maxIncome},
		{maxChest - 5, 5}, {maxChest - 5, 6}, {maxChest, 0}, {maxChest - 1, 1}, {maxChest - 1, 0}, {maxChest - maxIncome, maxIncome - 1}, {0, maxIncome},
	} {
		dead := class(c.chest, []int64{3, 1, 4}, 0, 1, 2)
		if c.chest+c.income > maxChest {
			checkNothingPaid(t, dead, c.income, impl.ErrLimit)
		} else {
			checkPaid(t, dead, c.income, class(c.chest+c.income, []int64{3, 1, 4}, 0, 1, 2), []int64{0, 0, 0}, impl.ErrNone)
		}
		checkPaid(t, class(c.chest, []int64{3, 1, 4}, 0, 2), c.income, class(0, []int64{3, 1, 4}, 0, 2), []int64{0, c.chest + c.income, 0}, impl.ErrNone)
	}
}

func TestIncomesOutOfRange(t *testing.T) {
	for _, c := range sampleClasses() {
		for _, income := range noIncomes {
			checkNothingPaid(t, c, income, impl.ErrRange)
			checkNotRun(t, c, []int64{income}, [][]int64{nil}, impl.ErrRange)
			checkNotRun(t, c, []int64{0, income}, [][]int64{nil, nil}, impl.ErrRange)
			checkNotRun(t, c, []int64{income, 0}, [][]int64{nil, nil}, impl.ErrRange)
		}
	}
}

// TestRunClassExamples has numbers that a program in another language has reckoned.
func TestRunClassExamples(t *testing.T) {
	for _, c := range []struct {
		text    string
		incomes []int64
		deaths  [][]int64
		want    string
		paid    []int64
	}{
		{"2 3 -1 4", []int64{}, [][]int64{}, "2 3 -1 4", []int64{0, 0, 0}},
		{"2 3 -1 4", []int64{100}, [][]int64{nil}, "4 3 -1 4", []int64{42, 0, 56}},
		{"2 3 -1 4", []int64{100, 50, 7}, [][]int64{nil, {0}, {2}}, "9 -3 -1 -4", []int64{42, 0, 108}},
		{"2 3 -1 4", []int64{0, 0, 0}, [][]int64{nil, nil, nil}, "2 3 -1 4", []int64{0, 0, 0}},
		{"2 3 -1 4", []int64{50, 50}, [][]int64{{2, 0}, nil}, "102 -3 -1 -4", []int64{0, 0, 0}},
		{"2 3 -1 4", []int64{50, 50}, [][]int64{nil, {2, 0}}, "53 -3 -1 -4", []int64{21, 0, 28}},
		{"0 1", []int64{5, 5, 5}, [][]int64{nil, {0}, nil}, "10 -1", []int64{5}},
		{"0 1", []int64{5, 5, 5}, [][]int64{{0}, nil, nil}, "15 -1", []int64{0}},
		{"0 5 5 5", []int64{14, 1, 14, 15}, [][]int64{nil, nil, {1}, nil}, "9 5 -5 5", []int64{15, 5, 15}},
		{"0 2 3 5", []int64{9, 9, 9, 9, 9, 9}, [][]int64{nil, {2}, nil, {0}, nil, {1}}, "11 -2 -3 -5", []int64{10, 33, 0}},
		{"0 2 3 5", []int64{9, 9, 9, 9, 9, 9}, [][]int64{{2}, {1}, {0}, nil, nil, nil}, "37 -2 -3 -5", []int64{14, 3, 0}},
		{"11 1 2 3 4 5 6", []int64{1000, 0, 999, 100000000, 1, 77}, [][]int64{{5}, {0}, {2, 1}, nil, {4}, nil}, "1 -1 -2 -3 4 -5 -6", []int64{67, 134, 201, 44445240, 55556445, 0}},
		{"1000000000000 1 1 1", []int64{100000000, 100000000, 100000000}, [][]int64{{0}, nil, {1, 2}}, "100000000 -1 -1 -1", []int64{0, 500100000000, 500100000000}},
		{"1000000000000 1 1", []int64{0, 100000000, 100000000}, [][]int64{nil, {1}, {0}}, "100000000 -1 -1", []int64{500100000000, 500000000000}},
		{"999800000000 -1 1", []int64{100000000, 100000000}, [][]int64{{1}, nil}, "1000000000000 -1 -1", []int64{0, 0}},
		{"999700000000 -1 1", []int64{100000000, 99999999, 100000000}, [][]int64{{1}, nil, nil}, "999999999999 -1 -1", []int64{0, 0}},
		{"0 1000 1000 -1000 1000", []int64{2999, 1, 1998, 1, 3}, [][]int64{nil, nil, {3}, nil, {0, 1}}, "2002 -1000 -1000 -1000 -1000", []int64{1000, 1000, 0, 1000}},
	} {
		checkRun(t, classOf(c.text), c.incomes, c.deaths, classOf(c.want), c.paid, impl.ErrNone)
	}
	checkRun(t, classOf("2 3 -1 4"), nil, nil, classOf("2 3 -1 4"), []int64{0, 0, 0}, impl.ErrNone)
	checkRun(t, classOf("2 3 -1 4"), []int64{}, nil, classOf("2 3 -1 4"), []int64{0, 0, 0}, impl.ErrNone)
	checkRun(t, classOf("2 3 -1 4"), nil, [][]int64{}, classOf("2 3 -1 4"), []int64{0, 0, 0}, impl.ErrNone)
	checkRun(t, classOf("2 3 -1 4"), []int64{100, 0}, [][]int64{{}, {}}, classOf("4 3 -1 4"), []int64{42, 0, 56}, impl.ErrNone)
}

// TestLongHistories has numbers that a program in another language has reckoned: 100 years of 60 members who die one after
// the other.
func TestLongHistories(t *testing.T) {
	shares, incomes := make([]int64, impl.MaxClass), make([]int64, maxClassYears)
	for i := range shares {
		shares[i] = int64(1 + i*37%1000)
	}
	for i := range incomes {
		incomes[i] = int64((i*i*7919 + 13) % 1000003)
	}
	for _, c := range []struct {
		who   func(year int) (int, bool)
		chest int64
		dead  int
		paid  []int64
	}{
		{func(year int) (int, bool) { return year, year < 60 }, 21771178, 60, []int64{
			0, 0, 0, 112, 447, 1488, 3345, 6500, 11583, 19372, 30422, 45696, 65860, 74228, 86673,
			105640, 131646, 140490, 157412, 184448, 223782, 241180, 272210, 322056, 344932, 388920, 460314, 501000, 20498, 42032,
			68154, 92204, 123210, 149628, 186221, 216376, 261072, 297480, 354497, 402708, 438191, 502978, 555555, 649424, 732156,
			800532, 847818, 967180, 1072260, 1156694, 1210973, 1427904, 1648350, 1873014, 2101896, 81828, 301563, 662420, 1208928, 2152616,
		}},
		{func(year int) (int, bool) { return 59 - year, year < 60 }, 21771082, 60, []int64{
			674339, 1325440, 1214475, 994224, 692999, 819516, 885310, 895440, 852687, 760518, 841799, 876384, 866415, 812652, 869844,
			884596, 858071, 790020, 799733, 770176, 805467, 802896, 760395, 771060, 744093, 762098, 742473, 763000, 26603, 52540,
			73593, 96052, 110075, 126762, 131054, 138824, 152181, 149480, 151811, 161172, 150072, 144522, 145965, 155104, 139009,
			128538, 123728, 125060, 97125, 73260, 53613, 37296, 24050, 14430, 7992, 108, 73, 0, 0, 0,
		}},
		{func(year int) (int, bool) { return year * 7 % 60, year < 60 }, 21771240, 60, []int64{
			0, 44384, 38025, 6944, 274756, 139686, 56865, 0, 370656, 176352, 32648, 791928, 358670, 136406, 0,
			717240, 340975, 75600, 1336668, 582208, 240825, 778, 1055425, 500976, 141351, 1881632, 866700, 334000, 148, 104562,
			70152, 24568, 453065, 209124, 93499, 2368, 496503, 237170, 73260, 1262736, 455026, 210308, 8880, 906944, 429607,
			136530, 2307246, 750360, 324009, 21978, 1306285, 612720, 222000, 3797014, 1047951, 16200, 3066, 188100, 108633, 44344,
		}},
		{func(year int) (int, bool) { return year / 3 * 11 % 60, year%3 == 2 }, 4064, 33, []int64{
			0, 20786, 97425, 260176, 346127, 432078, 62217, 239200, 550935, 775882, 861833, 3264, 276345, 678656, 1205637,
			1291588, 1377539, 211680, 653660, 1383360, 1721343, 1807294, 31785, 570840, 1306830, 2151098, 2237049, 2323000, 14874, 80290,
			228105, 343804, 429755, 24420, 195286, 462056, 773559, 859510, 945461, 202020, 556998, 1113182, 1289265, 1375216, 102527,
			534798, 1158544, 1719020, 1804971, 1890922, 434010, 1085136, 2105300, 2234726, 2320677, 7704, 61174, 193380, 341481, 427432,
		}},
	} {
		deaths, dead := make([][]int64, maxClassYears), []int64{}
		for year := range deaths {
			if number, dies := c.who(year); dies {
				deaths[year] = []int64{int64(number)}
				dead = append(dead, int64(number))
			}
		}
		slices.Sort(dead)
		if len(dead) != c.dead {
			t.Fatalf("%d members die", len(dead))
		}
		checkRun(t, class(0, shares), incomes, deaths, class(c.chest, shares, dead...), c.paid, impl.ErrNone)
	}
}

// historyByChance returns a history of a class, in which somebody who is dead may be told, an income or a number be out of
// its range, too many members be told, or a list be too short or too long.
func historyByChance(random *rand.Rand, c impl.Class) ([]int64, [][]int64) {
	years := []int{0, 1, 2, 3, 5, 10, 98 + random.Intn(4)}[random.Intn(7)]
	incomes, deaths := make([]int64, years), make([][]int64, years)
	now := tontineOf(c)
	for i := range years {
		incomes[i] = incomeByChance(random)
		if random.Intn(3) == 0 {
			deaths[i] = deathsByChance(random, now.class())
			now.bury(deaths[i])
		}
	}
	for years > 0 && random.Intn(3) == 0 {
		i := random.Intn(years)
		switch random.Intn(8) {
		case 0:
			incomes[i] = noIncomes[random.Intn(len(noIncomes))]
		case 1:
			wrong := noMembers(len(c.Shares))
			deaths[i] = append(deaths[i], wrong[random.Intn(len(wrong))])
		case 2:
			deaths[i] = fill(maxTold+random.Intn(2), 0)
		case 3:
			incomes = incomes[:len(incomes)-random.Intn(2)]
			deaths = append(deaths, nil)
			return incomes, deaths
		default:
			// Somebody who has died in an earlier year, or in the same one, or dies in a later one.
			deaths[i] = append(deaths[i], random.Int63n(int64(len(c.Shares))))
		}
	}
	return incomes, deaths
}

// TestHistoriesByHand compares histories, with and without errors, with a reckoning of its own, and with BuryMembers and
// PayIncome for one year after the other.
func TestHistoriesByHand(t *testing.T) {
	tried := sorts{}
	byChanceClasses(135, func(random *rand.Rand, c impl.Class) {
		incomes, deaths := historyByChance(random, c)
		h := tontineOf(c)
		code := h.run(incomes, deaths)
		tried.count(fmt.Sprint(code), true)
		tried.count("a full history", code == impl.ErrNone && len(incomes) == maxClassYears)
		tried.count("the last one dies", code == impl.ErrNone && tontineOf(c).living() > 0 && h.living() == 0)
		if code != impl.ErrNone {
			checkNotRun(t, c, incomes, deaths, code)
		} else {
			checkRun(t, c, incomes, deaths, h.class(), h.got, impl.ErrNone)
		}
		if code != impl.ErrRange {
			checkYearByYear(t, c, incomes, deaths, code)
		}
	})
	tried.checkAll(t, fmt.Sprint(impl.ErrNone), fmt.Sprint(impl.ErrRange), fmt.Sprint(impl.ErrState), fmt.Sprint(impl.ErrLimit), "a full history", "the last one dies")
}

// checkYearByYear compares a history in whose lists nothing is out of range with BuryMembers and PayIncome.
func checkYearByYear(t *testing.T, c impl.Class, incomes []int64, deaths [][]int64, want int64) {
	t.Helper()
	now, got := c, make([]int64, len(c.Shares))
	for i := range incomes {
		var paid []int64
		var code int64
		if now, code = impl.BuryMembers(now, deaths[i]); code == impl.ErrNone {
			now, paid, code = impl.PayIncome(now, incomes[i])
		}
		if code != impl.ErrNone {
			if code != want {
				t.Errorf("the year %d of %v, %v, %v has the error %d; want %d", i, c, incomes, deaths, code, want)
			}
			return
		}
		for m, cents := range paid {
			got[m] += cents
		}
	}
	if want != impl.ErrNone {
		t.Errorf("no year of %v, %v, %v has the error %d", c, incomes, deaths, want)
		return
	}
	checkRun(t, c, incomes, deaths, now, got, impl.ErrNone)
}

// TestEveryCentOfHistories checks promise 13 for histories, and that members get nothing from the year of their death on.
func TestEveryCentOfHistories(t *testing.T) {
	died, full := 0, 0
	byChanceClasses(136, func(random *rand.Rand, c impl.Class) {
		incomes, deaths := historyByChance(random, c)
		after, paid, code := impl.RunClass(c, incomes, deaths)
		if code != impl.ErrNone {
			return
		}
		in, out := c.Chest, after.Chest
		for _, income := range incomes {
			in += income
		}
		for _, cents := range paid {
			out += cents
		}
		if in != out {
			t.Errorf("RunClass(%v, %v, %v) = %v, %v: cents are lost or won", c, incomes, deaths, after, paid)
		}
		for _, number := range c.Dead {
			if paid[number] != 0 {
				t.Errorf("RunClass(%v, %v, %v) = %v, %v: %d is dead", c, incomes, deaths, after, paid, number)
			}
		}
		for i := range incomes {
			if len(deaths[i]) == 0 {
				continue
			}
			_, before, _ := impl.RunClass(c, incomes[:i], deaths[:i])
			for _, number := range deaths[i] {
				died++
				if paid[number] != before[number] {
					t.Errorf("RunClass(%v, %v, %v) = %v, %v: %d gets something after the year %d", c, incomes, deaths, after, paid, number, i)
				}
			}
		}
		if len(incomes) == maxClassYears {
			full++
		}
	})
	if died < 1000 || full < 100 {
		t.Errorf("%d deaths and %d histories of 100 years were tried", died, full)
	}
}

func TestHistoryErrors(t *testing.T) {
	many := fill(maxTold+1, 0)
	for _, c := range []struct {
		text    string
		incomes []int64
		deaths  [][]int64
		want    int64
	}{
		// Lists of different lengths.
		{"2 3 -1 4", []int64{1}, nil, impl.ErrRange},
		{"2 3 -1 4", nil, [][]int64{nil}, impl.ErrRange},
		{"2 3 -1 4", nil, [][]int64{{0}}, impl.ErrRange},
		{"2 3 -1 4", []int64{1, 1}, [][]int64{nil}, impl.ErrRange},
		{"2 3 -1 4", []int64{1}, [][]int64{nil, nil}, impl.ErrRange},
		// A member who is dead already, from the beginning or by an earlier year, or told twice.
		{"2 3 -1 4", []int64{1}, [][]int64{{1}}, impl.ErrState},
		{"2 3 -1 4", []int64{1, 1}, [][]int64{nil, {1}}, impl.ErrState},
		{"2 3 -1 4", []int64{1, 1}, [][]int64{{0}, {0}}, impl.ErrState},
		{"2 3 -1 4", []int64{1, 1, 1}, [][]int64{{0}, nil, {2, 0}}, impl.ErrState},
		{"2 3 -1 4", []int64{1}, [][]int64{{2, 2}}, impl.ErrState},
		{"2 3 -1 4", []int64{1, 1}, [][]int64{nil, {2, 0, 2}}, impl.ErrState},
		{"2 -3", []int64{1, 1}, [][]int64{nil, {0}}, impl.ErrState},
		// A chest that becomes too full, at once or later.
		{"1000000000000 -3 -4", []int64{1}, [][]int64{nil}, impl.ErrLimit},
		{"1000000000000 -3 -4", []int64{0, 0, 1}, [][]int64{nil, nil, nil}, impl.ErrLimit},
		{"1000000000000 -3 4", []int64{1}, [][]int64{{1}}, impl.ErrLimit},
		{"999900000000 -3 -4", []int64{100000000, 1}, [][]int64{nil, nil}, impl.ErrLimit},
		{"999900000001 -3 -4", []int64{100000000, 0}, [][]int64{nil, nil}, impl.ErrLimit},
		{"999800000001 -3 4", []int64{100000000, 100000000}, [][]int64{{1}, nil}, impl.ErrLimit},
		// What is out of range comes first: before a state or a limit of the same year, an earlier or a later one.
		{"2 3 -1 4", []int64{-1}, [][]int64{{1}}, impl.ErrRange},
		{"2 3 -1 4", []int64{1}, [][]int64{{1, 3}}, impl.ErrRange},
		{"2 3 -1 4", []int64{1, -1}, [][]int64{{1}, nil}, impl.ErrRange},
		{"2 3 -1 4", []int64{1, 100000001}, [][]int64{{0, 0}, nil}, impl.ErrRange},
		{"2 3 -1 4", []int64{1, 1}, [][]int64{{1}, {3}}, impl.ErrRange},
		{"2 3 -1 4", []int64{1, 1}, [][]int64{{1}, {-1}}, impl.ErrRange},
		{"2 3 -1 4", []int64{1, 1}, [][]int64{{1}, many}, impl.ErrRange},
		{"2 3 -1 4", []int64{1, 1}, [][]int64{{1}}, impl.ErrRange},
		{"2 3 -1 4", []int64{1}, [][]int64{{1}, nil}, impl.ErrRange},
		{"2 3 -1 4", []int64{-1, 1}, [][]int64{nil, {1}}, impl.ErrRange},
		{"2 3 -1 4", []int64{1, 1}, [][]int64{{3}, {1}}, impl.ErrRange},
		{"1000000000000 -3", []int64{1, -1}, [][]int64{nil, nil}, impl.ErrRange},
		{"1000000000000 -3", []int64{100000000, 100000001}, [][]int64{nil, nil}, impl.ErrRange},
		{"1000000000000 -3", []int64{1, 0}, [][]int64{nil, {1}}, impl.ErrRange},
		{"1000000000000 -3", []int64{1, 0}, [][]int64{nil, many}, impl.ErrRange},
		{"1000000000000 -3", []int64{1}, nil, impl.ErrRange},
		// Of the others, that of the earlier year, and in one year first the state.
		{"1000000000000 -3", []int64{1}, [][]int64{{0}}, impl.ErrState},
		{"1000000000000 -3", []int64{0, 1}, [][]int64{{0}, nil}, impl.ErrState},
		{"1000000000000 -3", []int64{1, 0}, [][]int64{nil, {0}}, impl.ErrLimit},
		{"1000000000000 -3", []int64{0, 1, 0}, [][]int64{nil, nil, {0}}, impl.ErrLimit},
		{"1000000000000 -3", []int64{0, 0, 1}, [][]int64{nil, {0}, nil}, impl.ErrState},
		{"1000000000000 -3 4", []int64{1, 1}, [][]int64{{1}, {1}}, impl.ErrLimit},
		{"1000000000000 -3 4", []int64{1, 1}, [][]int64{{1, 1}, nil}, impl.ErrState},
	} {
		checkNotRun(t, classOf(c.text), c.incomes, c.deaths, c.want)
	}
}

// TestLengthsOfHistories tries all lengths of both lists about the greatest one.
func TestLengthsOfHistories(t *testing.T) {
	c := classOf("2 3 -1 4")
	for _, n := range []int{0, 1, 2, 98, 99, 100, 101, 102, 5000} {
		for _, m := range []int{0, 1, 2, 98, 99, 100, 101, 102, 5000} {
			incomes, deaths := fill(n, 7), make([][]int64, m)
			if n != m || n > 100 {
				checkNotRun(t, c, incomes, deaths, impl.ErrRange)
				continue
			}
			cents := int64(2+7*n) / 7
			checkRun(t, c, incomes, deaths, classOf("2 3 -1 4"), []int64{3 * cents, 0, 4 * cents}, impl.ErrNone)
		}
	}
}

// TestErrorsInAnyYear has an error in one of 100 years.
func TestErrorsInAnyYear(t *testing.T) {
	c, full := classOf("2 3 -1 4"), classOf("1000000000000 -3")
	for i := range maxClassYears {
		incomes, deaths := fill(maxClassYears, 0), make([][]int64, maxClassYears)
		for _, wrong := range [][]int64{{1}, {0, 0}, {2, 1}} {
			deaths[i] = wrong
			checkNotRun(t, c, incomes, deaths, impl.ErrState)
		}
		for _, wrong := range [][]int64{{3}, {0, -1}, fill(maxTold+1, 0)} {
			deaths[i] = wrong
			checkNotRun(t, c, incomes, deaths, impl.ErrRange)
		}
		deaths[i] = []int64{2, 0}
		checkRun(t, c, incomes, deaths, classOf("2 -3 -1 -4"), []int64{0, 0, 0}, impl.ErrNone)
		deaths[i] = nil
		for _, income := range noIncomes {
			incomes[i] = income
			checkNotRun(t, c, incomes, deaths, impl.ErrRange)
			checkNotRun(t, full, incomes, deaths, impl.ErrRange)
		}
		incomes[i] = 1
		checkNotRun(t, full, incomes, deaths, impl.ErrLimit)
		checkRun(t, c, incomes, deaths, classOf("3 3 -1 4"), []int64{0, 0, 0}, impl.ErrNone)
	}
}

// checkLast compares the last member; beside an error it has to be 0.
func checkLast(t *testing.T, c impl.Class, number, wantCode int64) {
	t.Helper()
	if n, code := impl.LastMember(c); n != number || code != wantCode {
		t.Errorf("LastMember(%v) = %d, %d; want %d, %d", c, n, code, number, wantCode)
	}
}

func TestLastMemberExamples(t *testing.T) {
	for _, c := range []struct {
		text         string
		number, code int64
	}{
		// First, last, between, and the only one of all.
		{"2 3 -1 -4", 0, impl.ErrNone},
		{"2 -3 -1 4", 2, impl.ErrNone},
		{"2 -3 1 -4", 1, impl.ErrNone},
		{"2 3", 0, impl.ErrNone},
		{"2 -5 -5 -5 5 -5", 3, impl.ErrNone},
		// None, two, all.
		{"2 -3", 0, impl.ErrNotFound},
		{"2 -3 -1 -4", 0, impl.ErrNotFound},
		{"2 3 -1 4", 0, impl.ErrNotFound},
		{"2 3 1 -4", 0, impl.ErrNotFound},
		{"2 -3 1 4", 0, impl.ErrNotFound},
		{"2 3 1 4", 0, impl.ErrNotFound},
		{"2 3 1", 0, impl.ErrNotFound},
	} {
		checkLast(t, classOf(c.text), c.number, c.code)
	}
}

// TestLastMemberAtAllPlaces tries each member of classes of all sizes, and two of them.
func TestLastMemberAtAllPlaces(t *testing.T) {
	for n := 1; n <= impl.MaxClass; n++ {
		everybody := firstNumbers(n)
		checkLast(t, class(7, fill(n, 7), everybody...), 0, impl.ErrNotFound)
		for _, last := range everybody {
			dead := without(everybody, last)
			checkLast(t, class(7, fill(n, 7), dead...), last, impl.ErrNone)
			for _, other := range dead {
				checkLast(t, class(7, fill(n, 7), without(dead, other)...), 0, impl.ErrNotFound)
			}
		}
	}
}

func TestClassTexts(t *testing.T) {
	for _, c := range []struct {
		c    impl.Class
		text string
	}{
		{class(2, []int64{3, 1, 4}, 1), "2 3 -1 4"},
		{class(9, []int64{3, 1, 4}, 0, 1, 2), "9 -3 -1 -4"},
		{class(9, []int64{3, 1, 4}), "9 3 1 4"},
		{class(9, []int64{3, 1, 4}, 0), "9 -3 1 4"},
		{class(9, []int64{3, 1, 4}, 2), "9 3 1 -4"},
		{class(0, []int64{1}), "0 1"},
		{class(0, []int64{1}, 0), "0 -1"},
		{class(maxChest, []int64{maxShares}), "1000000000000 1000"},
		{class(maxChest, []int64{maxShares}, 0), "1000000000000 -1000"},
		{class(10, []int64{10, 9, 100, 99}, 1, 2), "10 10 -9 -100 99"},
		{class(0, fill(impl.MaxClass, 1)), "0" + strings.Repeat(" 1", 60)},
		{class(maxChest, fill(impl.MaxClass, maxShares), firstNumbers(impl.MaxClass)...), "1000000000000" + strings.Repeat(" -1000", 60)},
	} {
		if text, code := impl.ClassText(c.c); text != c.text || code != impl.ErrNone {
			t.Errorf("ClassText(%v) = %q, %d; want %q", c.c, text, code, c.text)
		}
		if back, code := impl.ReadClass(c.text); !sameClass(back, c.c) || code != impl.ErrNone {
			t.Errorf("ReadClass(%q) = %v, %d", c.text, back, code)
		}
	}
}

func TestClassIsFoundFromItsText(t *testing.T) {
	check := func(c impl.Class) {
		t.Helper()
		if text, code := impl.ClassText(c); text != textOf(c) || code != impl.ErrNone {
			t.Errorf("ClassText(%v) = %q, %d; want %q", c, text, code, textOf(c))
		}
		if back, code := impl.ReadClass(textOf(c)); !sameClass(back, c) || code != impl.ErrNone {
			t.Errorf("ReadClass(%q) = %v, %d; want %v", textOf(c), back, code, c)
		}
	}
	for _, c := range sampleClasses() {
		check(c)
	}
	byChanceClasses(137, func(_ *rand.Rand, c impl.Class) { check(c) })
}

// checkNoClassText checks that ReadClass returns ErrSyntax and nothing else.
func checkNoClassText(t *testing.T, text string) {
	t.Helper()
	if c, code := impl.ReadClass(text); !sameClass(c, impl.Class{}) || code != impl.ErrSyntax {
		t.Errorf("ReadClass(%.200q) = %v, %d", text, c, code)
	}
}

func TestNoTextsOfClasses(t *testing.T) {
	for _, text := range []string{
		// No numbers, or too few.
		"", " ", "  ", "-", "x", "0", "5", "-5", "5 ", " 5", "5 -", "5 - 3", "nil", "true", "{5 [3]}", "5 [3]", "five 3", "5 three",
		// Numbers that are not in their ranges.
		"-1 3", "-1 -3", "1000000000001 3", "1000000000001 -3", "-1000000000000 3", "5 0", "5 1001", "5 -1001", "5 0 3", "5 3 0", "5 3 1001", "5 3 -1001 4", "5 10000",
		// Blanks at other places, or other ones.
		" 5 3", "5 3 ", "5  3", "5 3  4", "5 -3 ", "5 - 3", "5 3\n", "5\n3", "5\t3", "5 3\r", "5,3", "5, 3", "5;3", "5 3\x00", "\x005 3", "5\u00a03", "5\u20033", "5\v3",
		// Signs and leading zeros.
		"+5 3", "5 +3", "5 -0", "-0 3", "5 03", "05 3", "00 3", "5 00", "5 -03", "5 3 +4", "5 3 04", "5 --3", "5 +-3", "5 -+3", "5 3-", "5- 3", "5 -3 -0", "5 \u22123",
		// Other ways to write numbers.
		"5 3.0", "5 3.", "5e1 3", "5 1e2", "0x5 3", "5 0x3", "5 1_0", "5 3x", "5 x", "5 3 x", "5 O", "5 \xff", "\u0665 3", "5 \uff13", "5 0b1", "5 0o7",
		// Numbers past int64, of which some would be in their ranges if they went round.
		"5 9223372036854775807", "5 -9223372036854775807", "5 9223372036854775808", "5 -9223372036854775808", "5 -9223372036854775809", "5 18446744073709551616", "5 18446744073709551619",
		"5 -18446744073709551619", "18446744073709551621 3", "9223372036854775807 3", "9223372036854775808 3", "-9223372036854775808 3", "5 4294967299", "5 -4294967299",
		"5 " + strings.Repeat("9", 5000), "5 -" + strings.Repeat("9", 5000), "5 " + strings.Repeat("0", 5000) + "3", strings.Repeat("0", 5000) + " 3",
	} {
		checkNoClassText(t, text)
	}
	checkNoClassText(t, "5"+strings.Repeat(" 3", impl.MaxClass+1))
	checkNoClassText(t, "5"+strings.Repeat(" -3", impl.MaxClass+1))
	checkNoClassText(t, "5"+strings.Repeat(" 3", 100000))
	checkNoClassText(t, strings.Repeat(" ", 100000))
}

// classForm is the form of a text of a class, but for the ranges of its numbers.
var classForm = regexp.MustCompile(`^(0|[1-9][0-9]{0,12})( -?[1-9][0-9]{0,3}){1,60}$`)

// readClassByHand reads a text as the document describes it, and reports whether it is one of a class.
func readClassByHand(text string) (impl.Class, bool) {
	if !classForm.MatchString(text) {
		return impl.Class{}, false
	}
	c := classOf(text)
	if c.Chest > maxChest || slices.Max(c.Shares) > maxShares {
		return impl.Class{}, false
	}
	return c, true
}

// TestTextsNearClasses changes texts of classes in one byte.
func TestTextsNearClasses(t *testing.T) {
	texts, others := 0, 0
	check := func(text string) {
		t.Helper()
		want, isText := readClassByHand(text)
		if !isText {
			others++
			checkNoClassText(t, text)
			return
		}
		texts++
		if c, code := impl.ReadClass(text); !sameClass(c, want) || code != impl.ErrNone {
			t.Errorf("ReadClass(%q) = %v, %d; want %v", text, c, code, want)
		}
	}
	for _, text := range []string{"2 3 -1 4", "0 1", "0 -1", "1000000000000 1000", "1000000000000 -1000 999", "999999999999 -10 10", "10 -7 -8 -9"} {
		for i := 0; i <= len(text); i++ {
			check(text[:i])
			check(text[i:])
			for b := range 256 {
				check(text[:i] + string([]byte{byte(b)}) + text[i:])
				if i < len(text) {
					check(text[:i] + string([]byte{byte(b)}) + text[i+1:])
				}
			}
			if i < len(text) {
				check(text[:i] + text[i+1:])
			}
		}
	}
	if texts < 100 || others < 1000 {
		t.Errorf("%d texts of classes and %d others were tried", texts, others)
	}
}

// TestNoClassIsTheFirstError asks about values that are no valid classes, with other arguments that are right and wrong.
func TestNoClassIsTheFirstError(t *testing.T) {
	for name, c := range noClasses() {
		if n, code := impl.LivingShares(c); n != 0 || code != impl.ErrInvalid {
			t.Errorf("%s: LivingShares(%v) = %d, %d", name, c, n, code)
		}
		checkLast(t, c, 0, impl.ErrInvalid)
		if text, code := impl.ClassText(c); text != "" || code != impl.ErrInvalid {
			t.Errorf("%s: ClassText(%v) = %q, %d", name, c, text, code)
		}
		for _, members := range [][]int64{nil, {}, {0}, {0, 0}, {1}, {-1}, {5000}, {math.MinInt64}, fill(maxTold+1, 0)} {
			checkNobodyBuried(t, c, members, impl.ErrInvalid)
			checkNotRun(t, c, []int64{5}, [][]int64{members}, impl.ErrInvalid)
		}
		for _, income := range append([]int64{0, 1, maxIncome}, noIncomes...) {
			checkNothingPaid(t, c, income, impl.ErrInvalid)
			checkNotRun(t, c, []int64{income}, [][]int64{nil}, impl.ErrInvalid)
		}
		checkNotRun(t, c, nil, nil, impl.ErrInvalid)
		checkNotRun(t, c, []int64{5}, nil, impl.ErrInvalid)
		checkNotRun(t, c, nil, [][]int64{{0}}, impl.ErrInvalid)
		checkNotRun(t, c, fill(maxClassYears+1, 0), make([][]int64, maxClassYears+1), impl.ErrInvalid)
	}
}

// TestTontinesShareNoMemory has all arguments in one array, each with the next ones in the room behind it. All results are
// overwritten up to their capacities: then the array, the other results, and what is returned again have to be as before.
func TestTontinesShareNoMemory(t *testing.T) {
	back := []int64{900, 3, 1, 4, 2, 901, 1, 902, 3, 0, 903, 100, 50, 904, 2, 905}
	was := slices.Clone(back)
	c := impl.Class{Shares: back[1:5], Dead: back[6:7], Chest: 2}
	members, incomes, deaths := back[8:10], back[11:13], [][]int64{back[8:10], back[14:15], back[6:7]}
	text := "2 3 -1 4 2"
	for name, ask := range map[string]func() [][]int64{
		"LivingShares": func() [][]int64 { impl.LivingShares(c); return nil },
		"LastMember":   func() [][]int64 { impl.LastMember(c); return nil },
		"ClassText":    func() [][]int64 { impl.ClassText(c); return nil },
		"BuryMembers": func() [][]int64 {
			after, _ := impl.BuryMembers(c, members)
			return [][]int64{after.Shares, after.Dead}
		},
		"BuryMembers of nobody": func() [][]int64 {
			after, _ := impl.BuryMembers(c, nil)
			return [][]int64{after.Shares, after.Dead}
		},
		"BuryMembers of a dead one": func() [][]int64 {
			after, _ := impl.BuryMembers(c, back[6:7])
			return [][]int64{after.Shares, after.Dead}
		},
		"PayIncome": func() [][]int64 {
			after, paid, _ := impl.PayIncome(c, 100)
			return [][]int64{after.Shares, after.Dead, paid}
		},
		"RunClass": func() [][]int64 {
			after, paid, _ := impl.RunClass(c, incomes, deaths[:2])
			return [][]int64{after.Shares, after.Dead, paid}
		},
		"RunClass of no years": func() [][]int64 {
			after, paid, _ := impl.RunClass(c, nil, nil)
			return [][]int64{after.Shares, after.Dead, paid}
		},
		"RunClass with an error": func() [][]int64 {
			after, paid, _ := impl.RunClass(c, back[11:13], deaths[1:])
			return [][]int64{after.Shares, after.Dead, paid}
		},
		"ReadClass": func() [][]int64 {
			after, _ := impl.ReadClass(text)
			return [][]int64{after.Shares, after.Dead}
		},
	} {
		first := fmt.Sprint(ask())
		lists := ask()
		for i, list := range lists {
			list = list[:cap(list)]
			for j := range list {
				list[j] = int64(-1000 - i)
			}
		}
		for i, list := range lists {
			if slices.ContainsFunc(list, func(n int64) bool { return n != int64(-1000-i) }) {
				t.Errorf("%s: two results share memory: %v", name, lists)
			}
		}
		if !slices.Equal(back, was) || len(deaths) != 3 || !slices.Equal(deaths[0], members) || !slices.Equal(deaths[1], back[14:15]) || !slices.Equal(deaths[2], back[6:7]) {
			t.Fatalf("%s: an argument is changed: %v, %v", name, back, deaths)
		}
		if again := fmt.Sprint(ask()); again != first {
			t.Errorf("%s = %s; was %s", name, again, first)
		}
	}
}

// TestResultsStayWhenArgumentsChange overwrites the arguments of calls whose results have to stay.
func TestResultsStayWhenArgumentsChange(t *testing.T) {
	c := classOf("2 3 -1 4 2")
	members, incomes, deaths := []int64{3, 0}, []int64{100, 50}, [][]int64{{3}, {0}}
	buried, _ := impl.BuryMembers(c, members)
	kept, _ := impl.BuryMembers(c, nil)
	paid, each, _ := impl.PayIncome(c, 100)
	run, all, _ := impl.RunClass(c, incomes, deaths)
	for _, list := range [][]int64{c.Shares, c.Dead, members, incomes, deaths[0], deaths[1]} {
		for i := range list {
			list[i] = 77
		}
	}
	deaths[0] = nil
	if !sameClass(buried, classOf("2 -3 -1 4 -2")) || !sameClass(kept, classOf("2 3 -1 4 2")) {
		t.Errorf("BuryMembers returned %v and %v", buried, kept)
	}
	if !sameClass(paid, classOf("3 3 -1 4 2")) || !slices.Equal(each, []int64{33, 0, 44, 22}) {
		t.Errorf("PayIncome returned %v, %v", paid, each)
	}
	if !sameClass(run, classOf("2 -3 -1 4 -2")) || !slices.Equal(all, []int64{42, 0, 108, 0}) {
		t.Errorf("RunClass returned %v, %v", run, all)
	}
}

func TestTontinesKeepNothing(t *testing.T) {
	checkKeepsNothing(t, func(x impl.LifeTable, rate int64) string {
		c := class(rate*1000, nil)
		for _, lives := range x.Lives[:min(len(x.Lives), impl.MaxClass)] {
			c.Shares = append(c.Shares, 1+(lives+rate)%maxShares)
		}
		c.Dead = firstNumbers(int(rate) % len(c.Shares))
		last := int64(len(c.Shares) - 1)
		buried, code := impl.BuryMembers(c, []int64{last})
		told := []any{buried, code}
		after, paid, code := impl.PayIncome(c, rate*rate)
		told = append(told, after, paid, code)
		after, paid, code = impl.RunClass(c, []int64{rate, 1000 * rate, 5}, [][]int64{nil, {last}, nil})
		told = append(told, after, paid, code)
		shares, code := impl.LivingShares(c)
		number, lastCode := impl.LastMember(buried)
		text, textCode := impl.ClassText(buried)
		back, readCode := impl.ReadClass(text)
		return fmt.Sprint(append(told, shares, code, number, lastCode, text, textCode, back, readCode))
	})
}
