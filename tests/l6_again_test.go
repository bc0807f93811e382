package tests

import (
	"math"
	"math/big"
	"math/bits"
	"reflect"
	"slices"
	"testing"

	"loop.example/g01210/impl"
)

type goal = impl.Goal

var (
	sumGoal   = goal{Kind: impl.GoalSum}
	topGoal   = goal{Kind: impl.GoalTop}
	alikeGoal = goal{Kind: impl.GoalAlike}
)

func reach(bound int) goal { return goal{Kind: impl.GoalReach, Bound: bound} }
func exact(bound int) goal { return goal{Kind: impl.GoalExact, Bound: bound} }

// smallPools are those of fullPools with at most three dice, and pools for which several sets are
// often best.
func smallPools() []pool {
	pools := []pool{
		{{0, 0, 3, 3, 6, 6}}, {{0, 0, 3, 3, 6, 6}, ordinary}, {{0, 0, 0, 6, 6, 6}, {1, 1, 3, 3, 5, 5}, {3, 3, 3, 3, 3, 3}},
		{ordinary, {1, 1, 1, 6, 6, 6}, {0, 0, 0, 0, 0, 30}}, {{1, 2, 2, 3, 3, 4}, {0, 1, 1, 2, 2, 9}, {2, 2, 2, 2, 2, 8}},
	}
	for _, p := range fullPools() {
		if len(p) <= 3 {
			pools = append(pools, p)
		}
	}
	return pools
}

// someGoals are Goals of each kind, with bounds that a pool reaches always, sometimes, hardly and
// never.
func someGoals(p pool) []goal {
	least, greatest, _ := impl.BoundsOf(p)
	goals := []goal{sumGoal, topGoal, alikeGoal}
	for _, bound := range []int{least, (least + greatest) / 2, greatest, greatest + 1} {
		goals = append(goals, reach(bound), exact(bound))
	}
	return goals
}

// noGoals are Goals that are not valid.
func noGoals() []goal {
	goals := []goal{{}, {Kind: 6}, {Kind: -1}, {Kind: math.MaxInt}, {Kind: math.MinInt}, {Kind: 0, Bound: 7}, {Kind: 6, Bound: 7}, {Kind: 1<<32 + 1}}
	for kind := impl.GoalSum; kind <= impl.GoalAlike; kind++ {
		for _, bound := range []int{-1, 121, 122, 1 << 32, 1<<32 + 1, math.MinInt, math.MaxInt} {
			goals = append(goals, goal{Kind: kind, Bound: bound})
		}
	}
	for _, bound := range []int{1, 7, 30, 120} {
		goals = append(goals, goal{Kind: impl.GoalSum, Bound: bound}, goal{Kind: impl.GoalTop, Bound: bound}, goal{Kind: impl.GoalAlike, Bound: bound})
	}
	return goals
}

// scoreFor tells the score of a roll by the document's words.
func scoreFor(g goal, roll []int) int {
	alike := true
	for _, face := range roll {
		alike = alike && face == roll[0]
	}
	switch {
	case g.Kind == impl.GoalSum:
		return sumOf(roll)
	case g.Kind == impl.GoalTop:
		return descending(roll)[0]
	case g.Kind == impl.GoalReach && sumOf(roll) >= g.Bound,
		g.Kind == impl.GoalExact && sumOf(roll) == g.Bound,
		g.Kind == impl.GoalAlike && alike:
		return 1
	}
	return 0
}

// A game tells all values by trying all sets and all that can come of them.
type game struct {
	p     pool
	g     goal
	known map[[5]int]*big.Rat
}

func newGame(p pool, g goal) game { return game{p: p, g: g, known: map[[5]int]*big.Rat{}} }

// value tells the value of a roll with r rerolls left.
func (a game) value(roll []int, r int) *big.Rat {
	if r == 0 {
		return ratio(scoreFor(a.g, roll), 1)
	}
	key := [5]int{3: -1, 4: r}
	copy(key[:], roll)
	if a.known[key] == nil {
		best := new(big.Rat)
		for set := range 1 << len(roll) {
			if of := a.setValue(roll, set, r); of.Cmp(best) > 0 {
				best = of
			}
		}
		a.known[key] = best
	}
	return a.known[key]
}

// setValue tells the mean of the score if a set of the dice of a roll is rolled again with r
// rerolls left.
func (a game) setValue(roll []int, set int, r int) *big.Rat {
	key := [5]int{3: set, 4: r}
	var rolled pool
	var places []int
	for i, face := range roll {
		key[i] = face
		if set&(1<<i) != 0 {
			key[i] = -1
			rolled = append(rolled, a.p[i])
			places = append(places, i)
		}
	}
	if a.known[key] == nil {
		a.known[key] = mean(rolled, func(faces []int) *big.Rat {
			next := slices.Clone(roll)
			for i, place := range places {
				next[place] = faces[i]
			}
			return a.value(next, r-1)
		})
	}
	return a.known[key]
}

// bestSets tells all best sets for a roll with r rerolls left.
func (a game) bestSets(roll []int, r int) []int {
	var sets []int
	value := a.value(roll, r)
	for set := range 1 << len(roll) {
		if a.setValue(roll, set, r).Cmp(value) == 0 {
			sets = append(sets, set)
		}
	}
	return sets
}

// rollsOf returns the rolls of all outcomes, in the order of their numbers.
func rollsOf(p pool) [][]int {
	var rolls [][]int
	eachRoll(p, func(roll []int) { rolls = append(rolls, roll) })
	return rolls
}

// checkRoll compares all that chapter 6 tells of one roll with the game.
func checkRoll(t *testing.T, a game, roll []int, number int) {
	t.Helper()
	p, g := a.p, a.g
	for r := range impl.MaxRerolls + 1 {
		if got, ok := impl.ValueOf(p, g, number, r); !ok || got != fraction(a.value(roll, r)) {
			t.Fatal("ValueOf", p, g, number, r, got, ok)
		}
	}
	for r := 1; r <= impl.MaxRerolls; r++ {
		want := a.bestSets(roll, r)
		if got, ok := impl.BestSets(p, g, number, r); !ok || !slices.Equal(got, want) {
			t.Fatal("BestSets", p, g, number, r, got, ok, want)
		}
		if got, ok := impl.BestSet(p, g, number, r); !ok || got != want[0] {
			t.Fatal("BestSet", p, g, number, r, got, ok, want)
		}
		for set := range 1 << len(p) {
			if got, ok := impl.SetValue(p, g, number, set, r); !ok || got != fraction(a.setValue(roll, set, r)) {
				t.Fatal("SetValue", p, g, number, set, r, got, ok)
			}
		}
	}
}

// checkAhead compares what chapter 6 tells of the first roll with the game.
func checkAhead(t *testing.T, a game) {
	t.Helper()
	p, g := a.p, a.g
	for r := range impl.MaxRerolls + 1 {
		want := mean(p, func(roll []int) *big.Rat { return a.value(roll, r) })
		if got, ok := impl.ValueAhead(p, g, r); !ok || got != fraction(want) {
			t.Fatal("ValueAhead", p, g, r, got, ok)
		}
	}
	for r := 1; r <= impl.MaxRerolls; r++ {
		rolled, kept := 0, 0
		eachRoll(p, func(roll []int) {
			set := a.bestSets(roll, r)[0]
			rolled += bits.OnesCount(uint(set))
			if set == 0 {
				kept++
			}
		})
		if got, ok := impl.MeanRolled(p, g, r); !ok || got != fraction(ratio(rolled, outcomes(p))) {
			t.Fatal("MeanRolled", p, g, r, got, ok)
		}
		if got, ok := impl.CountKept(p, g, r); !ok || got != kept {
			t.Fatal("CountKept", p, g, r, got, ok)
		}
	}
}

func TestAgainLimits(t *testing.T) {
	if impl.MaxAgain != 3 || impl.MaxRerolls != 2 || impl.MaxStops != 6 {
		t.Error("limits", impl.MaxAgain, impl.MaxRerolls, impl.MaxStops)
	}
	kinds := []int{impl.GoalSum, impl.GoalReach, impl.GoalExact, impl.GoalTop, impl.GoalAlike}
	if !slices.Equal(kinds, []int{1, 2, 3, 4, 5}) {
		t.Error("kinds", kinds)
	}
}

func TestIsGoal(t *testing.T) {
	for kind := -2; kind <= 8; kind++ {
		for bound := -3; bound <= 125; bound++ {
			want := bound == 0 && (kind == 1 || kind == 4 || kind == 5) || bound >= 0 && bound <= 120 && (kind == 2 || kind == 3)
			if got := impl.IsGoal(goal{Kind: kind, Bound: bound}); got != want {
				t.Error("IsGoal", kind, bound, got)
			}
		}
	}
	for _, g := range noGoals() {
		if impl.IsGoal(g) {
			t.Error("this is told to be a Goal", g)
		}
	}
}

func TestScoreOf(t *testing.T) {
	faces := []int{0, 1, 2, 5, 29, 30}
	var goals []goal
	for bound := range 121 {
		goals = append(goals, reach(bound), exact(bound))
	}
	goals = append(goals, sumGoal, topGoal, alikeGoal)
	for size := 1; size <= 3; size++ {
		p := make(pool, size)
		for i := range p {
			p[i] = die(faces)
		}
		eachRoll(p, func(roll []int) {
			kept := slices.Clone(roll)
			for _, g := range goals {
				if got, ok := impl.ScoreOf(g, roll); !ok || got != scoreFor(g, kept) {
					t.Fatal("ScoreOf", g, kept, got, ok)
				}
			}
			if !slices.Equal(roll, kept) {
				t.Fatal("the roll became", roll, kept)
			}
		})
	}
}

func TestKnownScores(t *testing.T) {
	cases := []struct {
		g     goal
		roll  []int
		score int
	}{
		{sumGoal, []int{30, 30, 30}, 90}, {sumGoal, []int{0}, 0}, {sumGoal, []int{3, 1}, 4}, {topGoal, []int{2, 5, 3}, 5}, {topGoal, []int{5, 2}, 5},
		{topGoal, []int{0, 0, 0}, 0}, {topGoal, []int{1, 30}, 30}, {alikeGoal, []int{0}, 1}, {alikeGoal, []int{7, 7, 7}, 1}, {alikeGoal, []int{7, 8, 7}, 0},
		{alikeGoal, []int{7, 7, 8}, 0}, {alikeGoal, []int{8, 7, 7}, 0}, {alikeGoal, []int{0, 0}, 1}, {reach(0), []int{0}, 1}, {reach(7), []int{3, 4}, 1},
		{reach(8), []int{3, 4}, 0}, {reach(90), []int{30, 30, 30}, 1}, {reach(120), []int{30, 30, 30}, 0}, {exact(0), []int{0, 0}, 1}, {exact(7), []int{3, 4}, 1},
		{exact(6), []int{3, 4}, 0}, {exact(8), []int{3, 4}, 0}, {exact(120), []int{30, 30, 30}, 0}, {exact(90), []int{30, 30, 30}, 1},
	}
	for _, c := range cases {
		if got, ok := impl.ScoreOf(c.g, c.roll); !ok || got != c.score {
			t.Error("ScoreOf", c, got, ok)
		}
	}
}

func TestListsWithoutAScore(t *testing.T) {
	lists := [][]int{nil, {}, {1, 2, 3, 4}, make([]int, 4), make([]int, 100), {-1}, {31}, {1, -1}, {1, 31}, {-1, 1}, {31, 1}, {1, 2, -1}, {1, 2, 31},
		{math.MinInt}, {math.MaxInt}, {math.MaxInt, math.MaxInt, 9}, {1, math.MinInt, math.MaxInt}, {math.MinInt, math.MinInt}, {1 << 32, 0}, {-3, 10}}
	for _, g := range []goal{sumGoal, topGoal, alikeGoal, reach(0), reach(7), reach(120), exact(0), exact(7), exact(120)} {
		for _, roll := range lists {
			if got, ok := impl.ScoreOf(g, roll); ok || got != 0 {
				t.Error("ScoreOf", g, roll, got, ok)
			}
		}
	}
	for _, g := range noGoals() {
		for _, roll := range append(lists, []int{1}, []int{3, 4}, []int{0, 0, 0}) {
			if got, ok := impl.ScoreOf(g, roll); ok || got != 0 {
				t.Error("ScoreOf", g, roll, got, ok)
			}
		}
	}
}

func TestGamesAgainstAllChoices(t *testing.T) {
	row := someNumbers(14)
	several := 0
	for _, p := range smallPools() {
		rolls := rollsOf(p)
		for _, g := range someGoals(p) {
			a := newGame(p, g)
			numbers := []int{0, len(rolls) - 1, row.below(len(rolls)), row.below(len(rolls))}
			if len(p) == 1 {
				numbers = []int{0, 1, 2, 3, 4, 5}
			}
			for _, number := range numbers {
				checkRoll(t, a, rolls[number], number)
				if sets := a.bestSets(rolls[number], 2); len(sets) > 1 && sets[0] > 0 {
					several++
				}
			}
			checkAhead(t, a)
		}
	}
	if several < 50 {
		t.Error("few rolls have several best sets, none of them empty", several)
	}
}

func TestGamesWithAllRolls(t *testing.T) {
	for _, p := range []pool{{ordinary, ordinary}, {{0, 1, 1, 2, 2, 9}, {1, 1, 1, 6, 6, 6}}} {
		for bound := range 14 {
			for _, g := range []goal{sumGoal, topGoal, alikeGoal, reach(bound), exact(bound)} {
				if bound > 0 && g.Bound == 0 {
					continue
				}
				a := newGame(p, g)
				for number, roll := range rollsOf(p) {
					checkRoll(t, a, roll, number)
				}
				checkAhead(t, a)
			}
		}
	}
	p := pool{{1, 2, 2, 3, 3, 4}, ordinary, {0, 0, 5, 5, 5, 12}}
	for _, g := range []goal{exact(11), alikeGoal} {
		a := newGame(p, g)
		for number, roll := range rollsOf(p) {
			checkRoll(t, a, roll, number)
		}
	}
}

func TestBestSetsHaveTheValue(t *testing.T) {
	row := someNumbers(15)
	for _, p := range smallPools() {
		for _, g := range someGoals(p) {
			number, r := row.below(outcomes(p)), 1+row.below(2)
			value, _ := impl.ValueOf(p, g, number, r)
			best, ok := impl.BestSets(p, g, number, r)
			if !ok || len(best) == 0 {
				t.Fatal("BestSets", p, g, number, r, best, ok)
			}
			for set := range 1 << len(p) {
				of, ok := impl.SetValue(p, g, number, set, r)
				if !ok || (of == value) != slices.Contains(best, set) {
					t.Error("another set is best", p, g, number, set, r, of, value, best)
				}
				if asRatio(t, of).Cmp(asRatio(t, value)) > 0 {
					t.Error("a set is better than the best one", p, g, number, set, r, of, value)
				}
			}
		}
	}
}

func TestValuesAheadGrow(t *testing.T) {
	grown := 0
	for _, p := range smallPools() {
		for _, g := range someGoals(p) {
			last, ok := impl.ValueAhead(p, g, 0)
			if !ok {
				t.Fatal("ValueAhead", p, g)
			}
			for r := 1; r <= 2; r++ {
				next, ok := impl.ValueAhead(p, g, r)
				difference := asRatio(t, next).Cmp(asRatio(t, last))
				if !ok || difference < 0 {
					t.Error("the value ahead is less with a reroll more", p, g, r, last, next, ok)
				}
				grown += difference
				last = next
			}
		}
	}
	if grown < 100 {
		t.Error("few values ahead are greater with a reroll more", grown)
	}
}

func TestValuesWithNoReroll(t *testing.T) {
	for _, p := range smallPools() {
		middle, _ := impl.MeanOf(p)
		if got, ok := impl.ValueAhead(p, sumGoal, 0); !ok || got != middle {
			t.Error("ValueAhead of sums", p, got, ok)
		}
		top, _ := impl.MeanPlace(p, 1)
		if got, ok := impl.ValueAhead(p, topGoal, 0); !ok || got != top {
			t.Error("ValueAhead of the greatest face", p, got, ok)
		}
		for bound := 0; bound <= 120; bound += 5 {
			chance, _ := impl.ChanceAtLeast(p, bound)
			if got, ok := impl.ValueAhead(p, reach(bound), 0); !ok || got != chance {
				t.Error("ValueAhead of a bound", p, bound, got, ok)
			}
			chance, _ = impl.ChanceOfSum(p, bound)
			if got, ok := impl.ValueAhead(p, exact(bound), 0); !ok || got != chance {
				t.Error("ValueAhead of a sum", p, bound, got, ok)
			}
		}
		for number, roll := range rollsOf(p) {
			if got, ok := impl.ValueOf(p, sumGoal, number, 0); !ok || got != [2]int{sumOf(roll), 1} {
				t.Fatal("ValueOf", p, number, got, ok)
			}
		}
	}
}

// checkAll checks that all sets are best for all rolls of a pool, as all of them have one value.
func checkAll(t *testing.T, p pool, g goal, value [2]int) {
	t.Helper()
	all := []int{0, 1, 2, 3, 4, 5, 6, 7}[:1<<len(p)]
	for r := 1; r <= 2; r++ {
		for _, number := range []int{0, 3, outcomes(p) - 1} {
			if got, ok := impl.BestSets(p, g, number, r); !ok || !slices.Equal(got, all) {
				t.Error("BestSets", p, g, number, r, got, ok)
			}
			if got, ok := impl.BestSet(p, g, number, r); !ok || got != 0 {
				t.Error("BestSet", p, g, number, r, got, ok)
			}
			if got, ok := impl.SetValue(p, g, number, len(all)-1, r); !ok || got != value {
				t.Error("SetValue", p, g, number, r, got, ok)
			}
		}
		if got, ok := impl.CountKept(p, g, r); !ok || got != outcomes(p) {
			t.Error("CountKept", p, g, r, got, ok)
		}
		if got, ok := impl.MeanRolled(p, g, r); !ok || got != [2]int{0, 1} {
			t.Error("MeanRolled", p, g, r, got, ok)
		}
	}
	for r := range 3 {
		if got, ok := impl.ValueOf(p, g, 1, r); !ok || got != value {
			t.Error("ValueOf", p, g, r, got, ok)
		}
		if got, ok := impl.ValueAhead(p, g, r); !ok || got != value {
			t.Error("ValueAhead", p, g, r, got, ok)
		}
	}
}

func TestGoalsThatNothingReaches(t *testing.T) {
	never, always := [2]int{0, 1}, [2]int{1, 1}
	for _, p := range smallPools() {
		_, greatest, _ := impl.BoundsOf(p)
		for _, g := range []goal{reach(greatest + 1), exact(greatest + 1), reach(120), exact(120)} {
			checkAll(t, p, g, never)
		}
		checkAll(t, p, reach(0), always)
		if len(p) == 1 {
			checkAll(t, p, alikeGoal, always)
		}
	}
	checkAll(t, pool{{0, 0, 0, 4, 4, 4}, {0, 2, 2, 6, 6, 6}, alone(30)}, exact(31), never)
	checkAll(t, pool{{0, 0, 0, 1, 1, 1}, {2, 3, 4, 5, 6, 7}}, alikeGoal, never)
	checkAll(t, pool{alone(1), alone(1), alone(2)}, alikeGoal, never)
	checkAll(t, pool{alone(2), alone(2), alone(2)}, alikeGoal, always)
	checkAll(t, pool{alone(30), alone(30), alone(30)}, sumGoal, [2]int{90, 1})
	checkAll(t, pool{alone(30), alone(30), alone(30)}, exact(90), always)
	checkAll(t, pool{alone(0)}, topGoal, never)
}

func TestKnownValues(t *testing.T) {
	two, three := pool{ordinary, ordinary}, pool{ordinary, ordinary, ordinary}
	level := pool{{0, 0, 3, 3, 6, 6}}
	cases := []struct {
		p      pool
		g      goal
		number int
		r      int
		value  [2]int
		sets   []int
	}{
		{two, sumGoal, 0, 1, [2]int{7, 1}, []int{3}}, {two, sumGoal, 0, 2, [2]int{17, 2}, []int{3}}, {two, sumGoal, 35, 2, [2]int{12, 1}, []int{0}},
		{two, sumGoal, 23, 1, [2]int{10, 1}, []int{0}}, {two, sumGoal, 23, 2, [2]int{41, 4}, []int{1}}, {two, sumGoal, 33, 2, [2]int{41, 4}, []int{2}},
		{two, reach(12), 30, 1, [2]int{1, 6}, []int{2}}, {two, reach(12), 5, 1, [2]int{1, 6}, []int{1}}, {two, reach(12), 5, 2, [2]int{11, 36}, []int{1}},
		{two, reach(12), 35, 1, [2]int{1, 1}, []int{0}}, {two, exact(7), 0, 1, [2]int{1, 6}, []int{1, 2, 3}}, {two, exact(7), 5, 2, [2]int{1, 1}, []int{0}},
		{two, exact(7), 0, 2, [2]int{11, 36}, []int{1, 2, 3}}, {two, alikeGoal, 1, 1, [2]int{1, 6}, []int{1, 2, 3}}, {two, alikeGoal, 7, 1, [2]int{1, 1}, []int{0}},
		{three, alikeGoal, 8, 1, [2]int{1, 36}, []int{3, 5, 6, 7}}, {three, alikeGoal, 1, 1, [2]int{1, 6}, []int{4}}, {three, alikeGoal, 6, 1, [2]int{1, 6}, []int{2}},
		{three, alikeGoal, 36, 2, [2]int{11, 36}, []int{1}}, {three, alikeGoal, 8, 2, [2]int{73, 648}, []int{3, 5, 6, 7}}, {three, alikeGoal, 43, 2, [2]int{1, 1}, []int{0}},
		{level, sumGoal, 2, 1, [2]int{3, 1}, []int{0, 1}}, {level, sumGoal, 2, 2, [2]int{4, 1}, []int{1}}, {level, sumGoal, 5, 2, [2]int{6, 1}, []int{0}},
		{pool{alone(6), ordinary}, topGoal, 0, 2, [2]int{6, 1}, []int{0, 1, 2, 3}}, {two, topGoal, 18, 1, [2]int{9, 2}, []int{2}},
		{two, topGoal, 5, 1, [2]int{6, 1}, []int{0, 1}}, {two, topGoal, 35, 1, [2]int{6, 1}, []int{0, 1, 2}},
	}
	for _, c := range cases {
		want := newGame(c.p, c.g).value(rollsOf(c.p)[c.number], c.r)
		if fraction(want) != c.value {
			t.Error("the case is wrong", c, want)
		}
		if got, ok := impl.ValueOf(c.p, c.g, c.number, c.r); !ok || got != c.value {
			t.Error("ValueOf", c, got, ok)
		}
		if got, ok := impl.BestSets(c.p, c.g, c.number, c.r); !ok || !slices.Equal(got, c.sets) {
			t.Error("BestSets", c, got, ok)
		}
		if got, ok := impl.BestSet(c.p, c.g, c.number, c.r); !ok || got != c.sets[0] {
			t.Error("BestSet", c, got, ok)
		}
	}
	// What was kept in the first reroll can be rolled again in the second one.
	if got, ok := impl.SetValue(two, sumGoal, 0, 0, 2); !ok || got != [2]int{7, 1} {
		t.Error("SetValue of no die", got, ok)
	}
	if got, ok := impl.SetValue(two, sumGoal, 35, 3, 2); !ok || got != [2]int{17, 2} {
		t.Error("SetValue of both dice", got, ok)
	}
}

func TestKnownValuesAhead(t *testing.T) {
	two, three := pool{ordinary, ordinary}, pool{ordinary, ordinary, ordinary}
	cases := []struct {
		p      pool
		g      goal
		r      int
		ahead  [2]int
		rolled [2]int
		kept   int
	}{
		{pool{ordinary}, sumGoal, 1, [2]int{17, 4}, [2]int{1, 2}, 3}, {pool{ordinary}, sumGoal, 2, [2]int{14, 3}, [2]int{2, 3}, 2},
		{two, sumGoal, 1, [2]int{17, 2}, [2]int{1, 1}, 9}, {two, sumGoal, 2, [2]int{28, 3}, [2]int{4, 3}, 4}, {three, sumGoal, 2, [2]int{14, 1}, [2]int{2, 1}, 8},
		{two, alikeGoal, 1, [2]int{11, 36}, [2]int{5, 6}, 6}, {three, alikeGoal, 1, [2]int{73, 648}, [2]int{55, 36}, 6}, {three, alikeGoal, 2, [2]int{2539, 11664}, [2]int{55, 36}, 6},
		{two, reach(12), 1, [2]int{121, 1296}, [2]int{5, 3}, 1}, {two, reach(2), 2, [2]int{1, 1}, [2]int{0, 1}, 36}, {two, exact(7), 1, [2]int{11, 36}, [2]int{5, 6}, 6},
	}
	for _, c := range cases {
		if got, ok := impl.ValueAhead(c.p, c.g, c.r); !ok || got != c.ahead {
			t.Error("ValueAhead", c, got, ok)
		}
		if got, ok := impl.MeanRolled(c.p, c.g, c.r); !ok || got != c.rolled {
			t.Error("MeanRolled", c, got, ok)
		}
		if got, ok := impl.CountKept(c.p, c.g, c.r); !ok || got != c.kept {
			t.Error("CountKept", c, got, ok)
		}
	}
}

// failsForAll checks that all functions with a pool and a Goal fail, with numbers that would be
// valid.
func failsForAll(t *testing.T, p pool, g goal) {
	t.Helper()
	for r := range 3 {
		if got, ok := impl.ValueAhead(p, g, r); ok || got != [2]int{} {
			t.Error("ValueAhead", p, g, r, got, ok)
		}
		if got, ok := impl.MeanRolled(p, g, r); ok || got != [2]int{} {
			t.Error("MeanRolled", p, g, r, got, ok)
		}
		if got, ok := impl.CountKept(p, g, r); ok || got != 0 {
			t.Error("CountKept", p, g, r, got, ok)
		}
		for _, number := range []int{0, 5} {
			failsForRoll(t, p, g, number, r)
		}
	}
}

// failsForRoll checks that all functions with a pool, a Goal, a number and rerolls fail.
func failsForRoll(t *testing.T, p pool, g goal, number int, r int) {
	t.Helper()
	if got, ok := impl.ValueOf(p, g, number, r); ok || got != [2]int{} {
		t.Error("ValueOf", p, g, number, r, got, ok)
	}
	if got, ok := impl.BestSet(p, g, number, r); ok || got != 0 {
		t.Error("BestSet", p, g, number, r, got, ok)
	}
	if got, ok := impl.BestSets(p, g, number, r); ok || len(got) != 0 {
		t.Error("BestSets", p, g, number, r, got, ok)
	}
	for _, set := range []int{0, 1} {
		if got, ok := impl.SetValue(p, g, number, set, r); ok || got != [2]int{} {
			t.Error("SetValue", p, g, number, set, r, got, ok)
		}
	}
}

func TestGamesOfOtherPoolsAndGoals(t *testing.T) {
	lists := noPools()
	for _, d := range noDice() {
		lists = append(lists, pool{d, d}, pool{ordinary, d, ordinary}, pool{ordinary, ordinary, d})
	}
	for _, p := range fullPools() {
		if len(p) == 4 {
			lists = append(lists, p)
		}
	}
	lists = append(lists, pool{alone(0), alone(0), alone(0), alone(0)}, pool{ordinary, ordinary, ordinary, ordinary})
	for _, p := range lists {
		for _, g := range []goal{sumGoal, topGoal, alikeGoal, reach(3), exact(3)} {
			failsForAll(t, p, g)
		}
		if got, ok := impl.PlaySets(p, 0, nil, nil); ok || len(got) != 0 {
			t.Error("PlaySets", p, got, ok)
		}
		if got, ok := impl.PlaySets(p, 0, []int{1}, []int{5}); ok || len(got) != 0 {
			t.Error("PlaySets", p, got, ok)
		}
	}
	for _, g := range noGoals() {
		for _, p := range []pool{{ordinary}, {alone(0), alone(0)}, {ordinary, ordinary, ordinary}, nil, {ordinary, ordinary, ordinary, ordinary}} {
			failsForAll(t, p, g)
		}
	}
}

func TestGamesWithOtherNumbers(t *testing.T) {
	for _, p := range []pool{{ordinary}, {alone(0), ordinary}, {ordinary, alone(30), ordinary}} {
		for _, g := range []goal{sumGoal, topGoal, alikeGoal, reach(3), exact(3)} {
			for _, number := range append([]int{outcomes(p), outcomes(p) + 1, 216, 1296}, manyNumbers...) {
				for r := range 3 {
					failsForRoll(t, p, g, number, r)
				}
			}
			for _, r := range append([]int{3, 4, 5, 6, 30}, manyNumbers...) {
				failsForRoll(t, p, g, 0, r)
				if got, ok := impl.ValueAhead(p, g, r); ok || got != [2]int{} {
					t.Error("ValueAhead", p, g, r, got, ok)
				}
			}
			for _, r := range append([]int{0, 3, 4, 5, 6, 30}, manyNumbers...) {
				if got, ok := impl.BestSet(p, g, 1, r); ok || got != 0 {
					t.Error("BestSet", p, g, r, got, ok)
				}
				if got, ok := impl.BestSets(p, g, 1, r); ok || len(got) != 0 {
					t.Error("BestSets", p, g, r, got, ok)
				}
				if got, ok := impl.SetValue(p, g, 1, 0, r); ok || got != [2]int{} {
					t.Error("SetValue", p, g, r, got, ok)
				}
				if got, ok := impl.MeanRolled(p, g, r); ok || got != [2]int{} {
					t.Error("MeanRolled", p, g, r, got, ok)
				}
				if got, ok := impl.CountKept(p, g, r); ok || got != 0 {
					t.Error("CountKept", p, g, r, got, ok)
				}
			}
			for _, set := range append([]int{1 << len(p), 1<<len(p) + 1, 8, 9, 15, 64}, manyNumbers...) {
				for r := range 3 {
					if got, ok := impl.SetValue(p, g, 0, set, r); ok || got != [2]int{} {
						t.Error("SetValue", p, g, set, r, got, ok)
					}
				}
			}
		}
	}
}

// stopMean tells by the document's words the greatest mean of the face at which one stops with so
// many throws.
func stopMean(d die, n int) *big.Rat {
	return mean(pool{d}, func(roll []int) *big.Rat {
		face := ratio(roll[0], 1)
		if n == 1 {
			return face
		}
		if next := stopMean(d, n-1); next.Cmp(face) > 0 {
			return next
		}
		return face
	})
}

func TestStopMeansAndBounds(t *testing.T) {
	for _, d := range append(someDice(), die{0, 0, 3, 3, 6, 6}, die{0, 4, 4, 4, 4, 8}) {
		var want [][2]int
		for n := 1; n <= 4; n++ {
			want = append(want, fraction(stopMean(d, n)))
		}
		all, ok := impl.StopMeans(d, 6)
		if !ok || len(all) != 6 || !slices.Equal(all[:4], want) {
			t.Fatal("StopMeans", d, all, ok, want)
		}
		for n := 1; n <= 6; n++ {
			if got, ok := impl.StopMeans(d, n); !ok || !slices.Equal(got, all[:n]) {
				t.Error("StopMeans", d, n, got, ok)
			}
			if n > 4 {
				// The mean of n throws comes of that of n - 1.
				next := mean(pool{d}, func(roll []int) *big.Rat {
					if before := asRatio(t, all[n-2]); before.Cmp(ratio(roll[0], 1)) > 0 {
						return before
					}
					return ratio(roll[0], 1)
				})
				if all[n-1] != fraction(next) {
					t.Error("StopMeans", d, n, all)
				}
			}
		}
		for n := range 6 {
			bound := d[0]
			for place := 5; n > 0 && place >= 0; place-- {
				if ratio(d[place], 1).Cmp(asRatio(t, all[n-1])) >= 0 {
					bound = d[place]
				}
			}
			if got, ok := impl.StopBound(d, n); !ok || got != bound {
				t.Error("StopBound", d, n, got, ok, bound)
			}
		}
	}
}

func TestStopMeansAreValuesAhead(t *testing.T) {
	for _, d := range someDice() {
		means, _ := impl.StopMeans(d, 3)
		for r := range 3 {
			if got, ok := impl.ValueAhead(pool{d}, sumGoal, r); !ok || got != means[r] {
				t.Error("ValueAhead of one die", d, r, got, ok, means)
			}
			if got, ok := impl.ValueAhead(pool{d}, topGoal, r); !ok || got != means[r] {
				t.Error("ValueAhead of the greatest face of one die", d, r, got, ok, means)
			}
		}
	}
	// The sum of several dice is best when each of them is.
	for _, p := range smallPools() {
		for r := range 3 {
			together := new(big.Rat)
			for _, d := range p {
				means, _ := impl.StopMeans(d, r+1)
				together.Add(together, asRatio(t, means[r]))
			}
			if got, ok := impl.ValueAhead(p, sumGoal, r); !ok || got != fraction(together) {
				t.Error("ValueAhead of several dice", p, r, got, ok)
			}
		}
	}
}

func TestKnownStops(t *testing.T) {
	cases := []struct {
		d      die
		means  [][2]int
		bounds []int
	}{
		{ordinary, [][2]int{{7, 2}, {17, 4}, {14, 3}, {89, 18}}, []int{1, 4, 5, 5, 5}}, {alone(7), [][2]int{{7, 1}, {7, 1}}, []int{7, 7, 7, 7, 7, 7}},
		{alone(0), [][2]int{{0, 1}, {0, 1}}, []int{0, 0, 0, 0, 0, 0}}, {die{0, 0, 3, 3, 6, 6}, [][2]int{{3, 1}, {4, 1}, {14, 3}}, []int{0, 3, 6, 6}},
		{die{0, 4, 4, 4, 4, 8}, [][2]int{{4, 1}, {14, 3}}, []int{0, 4, 8}}, {die{0, 0, 0, 0, 0, 30}, [][2]int{{5, 1}, {55, 6}}, []int{0, 30, 30, 30, 30, 30}},
	}
	for _, c := range cases {
		if got, ok := impl.StopMeans(c.d, len(c.means)); !ok || !slices.Equal(got, c.means) {
			t.Error("StopMeans", c, got, ok)
		}
		for n, bound := range c.bounds {
			if got, ok := impl.StopBound(c.d, n); !ok || got != bound {
				t.Error("StopBound", c, n, got, ok)
			}
		}
	}
}

func TestOtherStops(t *testing.T) {
	for _, d := range someDice() {
		for _, n := range append([]int{7, 8, 30}, manyNumbers...) {
			if got, ok := impl.StopMeans(d, n); ok || len(got) != 0 {
				t.Error("StopMeans", d, n, got, ok)
			}
			if got, ok := impl.StopBound(d, n); ok || got != 0 {
				t.Error("StopBound", d, n, got, ok)
			}
		}
		if got, ok := impl.StopMeans(d, 0); ok || len(got) != 0 {
			t.Error("StopMeans of no throw", d, got, ok)
		}
		if got, ok := impl.StopBound(d, 6); ok || got != 0 {
			t.Error("StopBound with six throws left", d, got, ok)
		}
	}
	for _, d := range noDice() {
		for n := range 7 {
			if got, ok := impl.StopMeans(d, n); ok || len(got) != 0 {
				t.Error("StopMeans", d, n, got, ok)
			}
			if got, ok := impl.StopBound(d, n); ok || got != 0 {
				t.Error("StopBound", d, n, got, ok)
			}
		}
	}
}

// played tells by the document's words what comes of a roll.
func played(rolls [][]int, number int, sets, numbers []int) []int {
	roll := slices.Clone(rolls[number])
	for step := range sets {
		for i := range roll {
			if sets[step]/[]int{1, 2, 4}[i]%2 == 1 {
				roll[i] = rolls[numbers[step]][i]
			}
		}
	}
	return roll
}

func TestPlaySetsAgainstAllSets(t *testing.T) {
	row := someNumbers(16)
	for _, p := range smallPools() {
		rolls := rollsOf(p)
		number, first, second := row.below(len(rolls)), row.below(len(rolls)), row.below(len(rolls))
		for one := range 1 << len(p) {
			for other := range 1 << len(p) {
				for _, size := range []int{0, 1, 2} {
					sets, numbers := []int{one, other}[:size], []int{first, second}[:size]
					want := played(rolls, number, sets, numbers)
					if got, ok := impl.PlaySets(p, number, sets, numbers); !ok || !slices.Equal(got, want) {
						t.Fatal("PlaySets", p, number, sets, numbers, got, ok, want)
					}
				}
			}
		}
		if got, ok := impl.PlaySets(p, number, nil, nil); !ok || !slices.Equal(got, rolls[number]) {
			t.Error("PlaySets of no sets", p, number, got, ok)
		}
		if got, ok := impl.PlaySets(p, number, nil, []int{}); !ok || !slices.Equal(got, rolls[number]) {
			t.Error("PlaySets of no sets", p, number, got, ok)
		}
	}
}

func TestKnownPlays(t *testing.T) {
	p := pool{ordinary, {11, 12, 13, 14, 15, 16}, {21, 22, 23, 24, 25, 26}}
	cases := []struct {
		number        int
		sets, numbers []int
		roll          []int
	}{
		{0, nil, nil, []int{1, 11, 21}}, {215, nil, nil, []int{6, 16, 26}}, {0, []int{1}, []int{215}, []int{6, 11, 21}}, {0, []int{4}, []int{215}, []int{1, 11, 26}},
		{0, []int{3}, []int{215}, []int{6, 16, 21}}, {0, []int{7}, []int{8}, []int{1, 12, 23}}, {0, []int{0}, []int{215}, []int{1, 11, 21}},
		{0, []int{3, 6}, []int{215, 43}, []int{6, 12, 22}}, {0, []int{7, 0}, []int{215, 0}, []int{6, 16, 26}}, {43, []int{2, 2}, []int{0, 215}, []int{2, 16, 22}},
	}
	for _, c := range cases {
		if got, ok := impl.PlaySets(p, c.number, c.sets, c.numbers); !ok || !slices.Equal(got, c.roll) {
			t.Error("PlaySets", c, got, ok)
		}
	}
}

func TestOtherPlays(t *testing.T) {
	for _, p := range []pool{{ordinary}, {alone(0), ordinary}, {ordinary, alone(30), ordinary}} {
		fails := func(number int, sets, numbers []int) {
			t.Helper()
			if got, ok := impl.PlaySets(p, number, sets, numbers); ok || len(got) != 0 {
				t.Error("PlaySets", p, number, sets, numbers, got, ok)
			}
		}
		for size := range 4 {
			for other := range 4 {
				if size != other || size == 3 {
					fails(0, make([]int, size), make([]int, other))
				}
			}
		}
		fails(0, make([]int, 1000), make([]int, 1000))
		fails(0, nil, []int{0})
		fails(0, []int{0}, nil)
		for _, number := range append([]int{outcomes(p), outcomes(p) + 1, 216, 1296}, manyNumbers...) {
			fails(number, nil, nil)
			fails(number, []int{1}, []int{0})
			for set := range 1 << len(p) {
				fails(0, []int{set}, []int{number})
				fails(0, []int{set, 0}, []int{number, 0})
				fails(0, []int{0, set}, []int{0, number})
			}
		}
		for _, set := range append([]int{1 << len(p), 1<<len(p) + 1, 8, 9, 15, 64}, manyNumbers...) {
			fails(0, []int{set}, []int{0})
			fails(0, []int{set, 1}, []int{0, 0})
			fails(0, []int{1, set}, []int{0, 0})
		}
	}
}

func TestArgumentsAreLeftByChapter6(t *testing.T) {
	whole := pool{{3, 4, 5, 6, 7, 8}, ordinary, {1, 2, 2, 3, 3, 4}, ordinary, alone(9), {6, 5, 4, 3, 2, 1}}
	kept := copyOf(whole)
	sets, numbers := []int{1, 0, 3}, []int{3, 5, 4}
	for size := range len(whole) + 1 {
		p := whole[:size]
		for _, g := range []goal{sumGoal, topGoal, alikeGoal, reach(9), exact(9), {}} {
			for r := range 4 {
				impl.ValueOf(p, g, 2, r)
				impl.BestSet(p, g, 2, r)
				impl.BestSets(p, g, 2, r)
				impl.ValueAhead(p, g, r)
				impl.MeanRolled(p, g, r)
				impl.CountKept(p, g, r)
				impl.SetValue(p, g, 2, 1, r)
				impl.PlaySets(p, 2, sets[:r], numbers[:r])
			}
		}
		if !reflect.DeepEqual(whole, kept) || !slices.Equal(sets, []int{1, 0, 3}) || !slices.Equal(numbers, []int{3, 5, 4}) {
			t.Fatal("the arguments became", whole, sets, numbers)
		}
	}
}

func TestResultsOfChapter6AreNew(t *testing.T) {
	p := pool{ordinary, ordinary, ordinary}
	lists := func() [][]int {
		best, _ := impl.BestSets(p, alikeGoal, 8, 1)
		roll, _ := impl.PlaySets(p, 8, []int{1, 2}, []int{3, 4})
		same, _ := impl.PlaySets(p, 8, nil, nil)
		return [][]int{best, roll, same}
	}
	first, second := lists(), lists()
	for i, list := range first {
		wanted := slices.Clone(second[i])
		list = list[:cap(list)]
		for place := range list {
			list[place] = -9
		}
		if len(wanted) == 0 || !slices.Equal(second[i], wanted) || !slices.Equal(lists()[i], wanted) {
			t.Error("two results share memory", i, second[i], wanted)
		}
	}
	one, _ := impl.StopMeans(ordinary, 4)
	other, _ := impl.StopMeans(ordinary, 4)
	wanted := slices.Clone(other)
	for i := range one {
		one[i] = [2]int{-9, -9}
	}
	if again, _ := impl.StopMeans(ordinary, 4); !slices.Equal(other, wanted) || !slices.Equal(again, wanted) {
		t.Error("two lists of means share memory", other, again)
	}
}
