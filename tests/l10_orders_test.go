package tests

import (
	"math"
	"reflect"
	"slices"
	"testing"

	"loop.example/g01210/impl"
)

type order = impl.Order

// orderWith returns the order with these players at its places.
func orderWith(players ...int) order {
	o := order{Places: [4]int{-1, -1, -1, -1}}
	copy(o.Places[:], players)
	return o
}

// ordersFor tells all orders of n players: the lists in which no player is twice.
func ordersFor(n int) []order {
	var orders []order
	eachList(n, n, func(players []int) {
		for player := range n {
			if !slices.Contains(players, player) {
				return
			}
		}
		orders = append(orders, orderWith(players...))
	})
	return orders
}

// orderFor tells the order of a roll: the player of each of its faces, the greatest one first.
func orderFor(roll []int) (order, bool) {
	sorted := descending(roll)
	var players []int
	for i, face := range sorted {
		if i > 0 && face == sorted[i-1] {
			return order{}, false
		}
		players = append(players, slices.Index(roll, face))
	}
	return orderWith(players...), true
}

// waysOfOrders tells the ways of all orders of a pool, and of ties.
func waysOfOrders(p pool) (ways []int, ties int) {
	counts := map[order]int{}
	eachRoll(p, func(roll []int) {
		if o, ok := orderFor(roll); ok {
			counts[o]++
		} else {
			ties++
		}
	})
	for _, o := range ordersFor(len(p)) {
		ways = append(ways, counts[o])
	}
	return ways, ties
}

// lettersFor tells the pool of letters, by the letters' indices.
func lettersFor(letters []int) pool {
	p := make(pool, len(letters)/6)
	for player := range p {
		place := 0
		for i, letter := range letters {
			if letter == player {
				p[player][place] = i + 1
				place++
			}
		}
	}
	return p
}

// readingsOf tells the ways of all orders of letters: so many times can the players be read in
// them, the last one first, if other letters are passed over.
func readingsOf(letters []int) []int {
	var ways []int
	for _, o := range ordersFor(len(letters) / 6) {
		players := slices.Clone(o.Places[:len(letters)/6])
		slices.Reverse(players)
		read := make([]int, len(players)+1)
		read[0] = 1
		for _, letter := range letters {
			place := slices.Index(players, letter)
			read[place+1] += read[place]
		}
		ways = append(ways, read[len(players)])
	}
	return ways
}

// someLetters returns letters of n players without a pattern.
func (r *someNumbers) someLetters(n int) []int {
	var letters []int
	for player := range n {
		for range 6 {
			letters = slices.Insert(letters, r.below(len(letters)+1), player)
		}
	}
	return letters
}

// repeated returns so many times each of some numbers.
func repeated(times int, numbers ...int) []int {
	var list []int
	for _, number := range numbers {
		list = append(list, slices.Repeat([]int{number}, times)...)
	}
	return list
}

// fairLetters3 have the same ways of all orders of three players.
var fairLetters3 = []int{0, 2, 1, 1, 0, 2, 1, 2, 2, 0, 0, 1, 0, 2, 1, 1, 0, 2}

// allLetters are letters of one to four players: in turns, each player alone, fair, and without a
// pattern.
func allLetters() [][]int {
	lists := [][]int{
		repeated(6, 0), repeated(6, 0, 1), repeated(6, 1, 0), repeated(6, 0, 1, 2), repeated(6, 2, 0, 1), repeated(6, 0, 1, 2, 3), repeated(6, 3, 1, 0, 2),
		slices.Repeat([]int{0, 1}, 6), slices.Repeat([]int{1, 0}, 6), slices.Repeat([]int{0, 1, 1, 0}, 3), slices.Repeat([]int{0, 1, 2}, 6), slices.Repeat([]int{0, 1, 2, 2, 1, 0}, 3),
		slices.Repeat([]int{0, 1, 2, 3}, 6), slices.Repeat([]int{0, 1, 2, 3, 3, 2, 1, 0}, 3), fairLetters3,
	}
	row := someNumbers(1001)
	for range 6 {
		for n := 2; n <= 4; n++ {
			lists = append(lists, row.someLetters(n))
		}
	}
	return lists
}

// noLetters are lists that are no letters of any pool.
func noLetters() [][]int {
	lists := [][]int{
		nil, {}, {0}, repeated(5, 0), repeated(7, 0), repeated(12, 0), repeated(6, 1), repeated(6, 0, 2), repeated(6, 1, 2), repeated(6, 0, 0), repeated(6, 0, 1, 2, 3, 4), repeated(6, 0, 1, 2, 3, 4, 5),
		repeated(3, 0, 1), repeated(4, 0, 1, 2), repeated(9, 0, 1), repeated(12, 0, 1), repeated(6, 0, 1, 1), repeated(6, 0, 1, 3), repeated(6, 0, 1, 2, 4), append(repeated(6, 0, 1), 0), append(repeated(6, 0, 1, 2, 3), 3),
		append(repeated(5, 0), repeated(7, 1)...), append(repeated(7, 0), repeated(5, 1)...), append(repeated(6, 0), repeated(5, 1)...), append(repeated(6, 0, 1), repeated(3, 2, 3)...), make([]int, 24), make([]int, 1<<20), repeated(1000, 0, 1, 2, 3),
	}
	for _, number := range []int{-1, 4, 5, 6, 30, 256, 1 << 32, 1<<32 + 1, -1 << 32, math.MinInt, math.MaxInt} {
		for _, list := range [][]int{repeated(6, 0), repeated(6, 0, 1), repeated(6, 0, 1, 2, 3)} {
			for _, place := range []int{0, len(list) / 2, len(list) - 1} {
				other := slices.Clone(list)
				other[place] = number
				lists = append(lists, other)
			}
		}
	}
	// All numbers are right, and each of them is once too often.
	for _, list := range allLetters() {
		for place := range list {
			if list[place] > 0 {
				other := slices.Clone(list)
				other[place]--
				lists = append(lists, other)
			}
		}
	}
	return lists
}

// orderPools are those of fullPools, pools without ties, and pools with few of them.
func orderPools() []pool {
	pools := append(fullPools(),
		pool{{1, 4, 5, 8, 9, 12}, {2, 3, 6, 7, 10, 11}}, pool{{1, 1, 1, 5, 5, 5}, {2, 2, 2, 4, 4, 4}, {0, 3, 3, 3, 3, 6}}, pool{alone(4), alone(1), alone(3), alone(2)}, pool{alone(0), alone(30)},
		pool{{0, 0, 0, 3, 3, 3}, {1, 1, 1, 2, 2, 2}}, pool{{0, 0, 0, 5, 5, 5}, {1, 1, 1, 4, 4, 4}, {2, 2, 2, 3, 3, 3}}, pool{{1, 2, 3, 4, 5, 6}, {6, 7, 8, 9, 10, 11}}, pool{{1, 2, 3, 4, 5, 6}, {7, 8, 9, 10, 11, 12}, {13, 14, 15, 16, 17, 17}})
	for _, letters := range allLetters() {
		pools = append(pools, lettersFor(letters))
	}
	return pools
}

func TestOrdersOf(t *testing.T) {
	for n, want := range map[int]int{1: 1, 2: 2, 3: 6, 4: 24} {
		orders, ok := impl.OrdersOf(n)
		if !ok || len(orders) != want || !slices.Equal(orders, ordersFor(n)) {
			t.Error("OrdersOf", n, orders, ok)
		}
	}
	three, _ := impl.OrdersOf(3)
	want := []order{orderWith(0, 1, 2), orderWith(0, 2, 1), orderWith(1, 0, 2), orderWith(1, 2, 0), orderWith(2, 0, 1), orderWith(2, 1, 0)}
	if !slices.Equal(three, want) {
		t.Error("OrdersOf", three)
	}
	four, _ := impl.OrdersOf(4)
	if four[0] != orderWith(0, 1, 2, 3) || four[1] != orderWith(0, 1, 3, 2) || four[6] != orderWith(1, 0, 2, 3) || four[23] != orderWith(3, 2, 1, 0) {
		t.Error("OrdersOf", four)
	}
	for _, n := range otherNumbers(1, impl.MaxPool) {
		if got, ok := impl.OrdersOf(n); ok || len(got) != 0 {
			t.Error("OrdersOf", n, got, ok)
		}
	}
}

func TestOrdersAgainstAllOutcomes(t *testing.T) {
	for _, p := range orderPools() {
		number := 0
		eachRoll(p, func(roll []int) {
			want, isOrder := orderFor(roll)
			if got, ok := impl.OrderOf(p, number); ok != isOrder || got != want {
				t.Fatal("OrderOf", p, number, roll, got, ok, want)
			}
			number++
		})
		want, wantedTies := waysOfOrders(p)
		ways, ok := impl.OrderWays(p)
		if !ok || !slices.Equal(ways, want) {
			t.Error("OrderWays", p, ways, ok, want)
		}
		ties, ok := impl.TieWays(p)
		if !ok || ties != wantedTies || sumOf(ways)+ties != outcomes(p) {
			t.Error("TieWays", p, ties, ok, wantedTies)
		}
	}
}

func TestKnownOrders(t *testing.T) {
	two, three := pool{ordinary, ordinary}, pool{{3, 3, 3, 9, 9, 9}, {1, 2, 4, 5, 8, 10}, {0, 6, 6, 6, 7, 30}}
	cases := []struct {
		p      pool
		number int
		want   order
		ok     bool
	}{
		{pool{ordinary}, 0, orderWith(0), true}, {pool{ordinary}, 5, orderWith(0), true}, {pool{alone(0)}, 3, orderWith(0), true}, {two, 0, order{}, false}, {two, 1, orderWith(1, 0), true}, {two, 6, orderWith(0, 1), true}, {two, 35, order{}, false}, {two, 34, orderWith(0, 1), true}, {two, 7, order{}, false},
		{three, 0, orderWith(0, 1, 2), true}, {three, 5, orderWith(2, 0, 1), true}, {three, 30, orderWith(1, 0, 2), true}, {three, 35, orderWith(2, 1, 0), true}, {three, 215, orderWith(2, 1, 0), true}, {three, 210, orderWith(1, 0, 2), true}, {three, 211, orderWith(1, 0, 2), true}, {three, 204, orderWith(0, 1, 2), true}, {three, 205, orderWith(0, 1, 2), true},
		{three, 181, orderWith(0, 2, 1), true}, {three, 31, orderWith(1, 2, 0), true}, {pool{alone(2), alone(1), alone(4), alone(3)}, 1295, orderWith(2, 3, 0, 1), true}, {pool{alone(2), alone(1), alone(4), alone(2)}, 0, order{}, false}, {pool{alone(1), alone(2), alone(3), alone(1)}, 77, order{}, false},
		{pool{alone(30), alone(0), alone(0)}, 77, order{}, false}, {pool{alone(30), alone(30), alone(0)}, 77, order{}, false}, {pool{alone(0), alone(29), alone(30)}, 77, orderWith(2, 1, 0), true},
	}
	for _, c := range cases {
		if got, ok := impl.OrderOf(c.p, c.number); ok != c.ok || got != c.want {
			t.Error("OrderOf", c, got, ok)
		}
	}
}

func TestKnownWaysOfOrders(t *testing.T) {
	cases := []struct {
		p    pool
		want []int
		ties int
	}{
		{pool{ordinary}, []int{6}, 0}, {pool{alone(0)}, []int{6}, 0}, {pool{ordinary, ordinary}, []int{15, 15}, 6}, {pool{ordinary, ordinary, ordinary}, []int{20, 20, 20, 20, 20, 20}, 96}, {pool{ordinary, ordinary, ordinary, ordinary}, slices.Repeat([]int{15}, 24), 936},
		{pool{{1, 4, 5, 8, 9, 12}, {2, 3, 6, 7, 10, 11}}, []int{18, 18}, 0}, {pool{alone(1), alone(1)}, []int{0, 0}, 36}, {pool{alone(1), alone(2)}, []int{0, 36}, 0}, {pool{alone(2), alone(1)}, []int{36, 0}, 0}, {pool{alone(3), alone(1), alone(2)}, []int{0, 216, 0, 0, 0, 0}, 0},
		{pool{alone(1), alone(2), alone(3)}, []int{0, 0, 0, 0, 0, 216}, 0}, {pool{alone(1), alone(1), alone(3)}, make([]int, 6), 216}, {pool{{0, 0, 4, 4, 4, 4}, alone(3)}, []int{24, 12}, 0}, {pool{{0, 0, 0, 0, 0, 1}, {0, 0, 0, 0, 0, 1}}, []int{5, 5}, 26},
		{pool{{0, 0, 0, 0, 0, 3}, {0, 0, 0, 0, 0, 3}, alone(2)}, []int{0, 30, 0, 30, 0, 0}, 156}, {lettersFor(fairLetters3), []int{36, 36, 36, 36, 36, 36}, 0}, {pool{{2, 2, 4, 4, 9, 9}, {1, 1, 6, 6, 8, 8}, {3, 3, 5, 5, 7, 7}}, []int{40, 40, 16, 64, 40, 16}, 0},
	}
	for _, c := range cases {
		ways, ok := impl.OrderWays(c.p)
		ties, fine := impl.TieWays(c.p)
		if !ok || !fine || !slices.Equal(ways, c.want) || ties != c.ties {
			t.Error("OrderWays", c, ways, ok, ties, fine)
		}
	}
}

// placesFor tells for each player and each place in how many ways the player is at the place.
func placesFor(p pool) [4][4]int {
	var table [4][4]int
	eachRoll(p, func(roll []int) {
		if o, ok := orderFor(roll); ok {
			for place := range p {
				table[o.Places[place]][place]++
			}
		}
	})
	return table
}

func TestPlacesOfPlayersAgainstAllOutcomes(t *testing.T) {
	for _, p := range orderPools() {
		want := placesFor(p)
		ties, _ := impl.TieWays(p)
		for player := range p {
			sum := 0
			for place := range p {
				got, ok := impl.WaysAt(p, player, place)
				if !ok || got != want[player][place] {
					t.Error("WaysAt", p, player, place, got, ok, want)
				}
				sum += got
			}
			if sum+ties != outcomes(p) {
				t.Error("the places are not all outcomes", p, player, sum, ties)
			}
		}
	}
}

func TestKnownPlacesOfPlayers(t *testing.T) {
	cases := []struct {
		p             pool
		player, place int
		want          int
	}{
		{pool{ordinary}, 0, 0, 6}, {pool{ordinary, ordinary}, 0, 0, 15}, {pool{ordinary, ordinary}, 1, 1, 15}, {pool{alone(1), alone(1)}, 0, 0, 0}, {pool{alone(1), alone(2)}, 0, 0, 0}, {pool{alone(1), alone(2)}, 0, 1, 36}, {pool{alone(1), alone(2)}, 1, 0, 36},
		{pool{alone(30), alone(1), alone(1)}, 0, 0, 0}, {pool{{0, 0, 0, 0, 0, 3}, {0, 0, 0, 0, 0, 3}, alone(2)}, 2, 1, 60}, {pool{{0, 0, 0, 0, 0, 3}, {0, 0, 0, 0, 0, 3}, alone(2)}, 0, 2, 30}, {pool{{0, 0, 0, 0, 0, 3}, {0, 0, 0, 0, 0, 3}, alone(2)}, 2, 0, 0},
		{pool{ordinary, ordinary, ordinary, ordinary}, 3, 3, 90}, {pool{alone(0), alone(2), alone(30), ordinary}, 3, 1, 864}, {pool{alone(0), alone(2), alone(30), ordinary}, 3, 2, 216}, {pool{alone(0), alone(2), alone(30), ordinary}, 0, 3, 1080}, {lettersFor(fairLetters3), 2, 1, 72},
	}
	for _, c := range cases {
		if got, ok := impl.WaysAt(c.p, c.player, c.place); !ok || got != c.want {
			t.Error("WaysAt", c, got, ok)
		}
	}
}

// fairness tells whether a pool is order fair, place fair and first fair.
func fairness(p pool) [3]bool {
	ways, ties := waysOfOrders(p)
	at := placesFor(p)
	fair := [3]bool{ties == 0, ties == 0, true}
	for _, number := range ways {
		fair[0] = fair[0] && number == ways[0]
	}
	for player := range p {
		for place := range p {
			fair[1] = fair[1] && at[player][place] == at[0][0]
		}
		fair[2] = fair[2] && at[player][0] == at[0][0]
	}
	return fair
}

// fairnessOf returns whether a pool is order fair, place fair and first fair.
func fairnessOf(t *testing.T, p pool) [3]bool {
	t.Helper()
	inOrder, okOrder := impl.IsOrderFair(p)
	inPlace, okPlace := impl.IsPlaceFair(p)
	inFirst, okFirst := impl.IsFirstFair(p)
	if !okOrder || !okPlace || !okFirst {
		t.Fatal("a pool has no fairness", p, okOrder, okPlace, okFirst)
	}
	return [3]bool{inOrder, inPlace, inFirst}
}

func TestFairnessAgainstAllOutcomes(t *testing.T) {
	kinds := map[[3]bool]int{}
	for _, p := range orderPools() {
		want := fairness(p)
		got := fairnessOf(t, p)
		if got != want {
			t.Error("fairness", p, got, want)
		}
		if got[0] && !got[1] || got[1] && !got[2] {
			t.Error("a pool is fair in orders or places alone", p, got)
		}
		kinds[got]++
	}
	if kinds[[3]bool{true, true, true}] < 20 || kinds[[3]bool{false, false, true}] < 5 || kinds[[3]bool{}] < 30 {
		t.Error("few pools of a kind", kinds)
	}
}

func TestKnownFairness(t *testing.T) {
	cases := []struct {
		p    pool
		want [3]bool
	}{
		{pool{ordinary}, [3]bool{true, true, true}}, {pool{alone(0)}, [3]bool{true, true, true}}, {pool{{1, 4, 5, 8, 9, 12}, {2, 3, 6, 7, 10, 11}}, [3]bool{true, true, true}}, {pool{{0, 0, 0, 3, 3, 3}, {1, 1, 1, 2, 2, 2}}, [3]bool{true, true, true}}, {lettersFor(fairLetters3), [3]bool{true, true, true}},
		// Each player is at each place in 72 ways, but the orders have 30 or 42 ways.
		{lettersFor([]int{0, 1, 2, 1, 2, 2, 0, 1, 0, 0, 2, 0, 1, 1, 2, 1, 2, 0}), [3]bool{false, true, true}}, {lettersFor([]int{1, 0, 0, 2, 2, 2, 1, 1, 2, 1, 0, 0, 1, 0, 0, 2, 2, 1}), [3]bool{false, true, true}},
		// The first places alone have the same ways.
		{lettersFor([]int{3, 0, 0, 3, 1, 2, 1, 2, 0, 3, 3, 0, 2, 2, 2, 1, 1, 1, 1, 3, 0, 0, 3, 2}), [3]bool{false, false, true}},
		// Ties take all three kinds away, but not the last one if the players are alike.
		{pool{ordinary, ordinary}, [3]bool{false, false, true}}, {pool{ordinary, ordinary, ordinary, ordinary}, [3]bool{false, false, true}}, {pool{alone(1), alone(1)}, [3]bool{false, false, true}}, {pool{alone(30), alone(2), alone(2)}, [3]bool{false, false, true}}, {pool{{0, 0, 0, 0, 0, 1}, {0, 0, 0, 0, 0, 1}}, [3]bool{false, false, true}},
		{pool{alone(1), alone(2)}, [3]bool{}}, {pool{alone(3), alone(2), alone(1)}, [3]bool{}}, {pool{ordinary, {1, 2, 2, 3, 3, 4}}, [3]bool{}}, {pool{{1, 2, 3, 4, 5, 7}, ordinary}, [3]bool{}}, {pool{{0, 0, 4, 4, 4, 4}, alone(3)}, [3]bool{}},
		{pool{{0, 0, 0, 5, 5, 5}, {1, 1, 1, 4, 4, 4}, {2, 2, 2, 3, 3, 3}}, [3]bool{}}, {pool{{2, 2, 4, 4, 9, 9}, {1, 1, 6, 6, 8, 8}, {3, 3, 5, 5, 7, 7}}, [3]bool{}},
	}
	for _, c := range cases {
		if got := fairnessOf(t, c.p); got != c.want || got != fairness(c.p) {
			t.Error("fairness", c, got, fairness(c.p))
		}
	}
}

// tielessFor tells whether no face is one of two dice.
func tielessFor(p pool) bool {
	for i, d := range p {
		for _, other := range p[:i] {
			for _, face := range d {
				if slices.Contains(other[:], face) {
					return false
				}
			}
		}
	}
	return true
}

func TestTielessPoolsAndTheirLetters(t *testing.T) {
	tieless := 0
	for _, p := range orderPools() {
		want := tielessFor(p)
		if got, ok := impl.IsTieless(p); !ok || got != want {
			t.Error("IsTieless", p, got, ok, want)
		}
		if ties, _ := impl.TieWays(p); want != (ties == 0) {
			t.Error("a pool is tieless where it has ties, or the other way round", p, ties)
		}
		letters, ok := impl.LettersOf(p)
		if !want {
			if ok || len(letters) != 0 {
				t.Error("LettersOf", p, letters, ok)
			}
			continue
		}
		tieless++
		if !ok || len(letters) != 6*len(p) {
			t.Fatal("LettersOf", p, letters, ok)
		}
		used := make([]int, len(p))
		last := 0
		for _, player := range letters {
			face := p[player][used[player]]
			if face < last {
				t.Error("the letters are not in order", p, letters)
			}
			last = face
			used[player]++
		}
		back, ok := impl.FromLetters(letters)
		ways, _ := impl.OrderWays(p)
		others, _ := impl.OrderWays(back)
		if !ok || !slices.Equal(back, lettersFor(letters)) || !slices.Equal(ways, others) {
			t.Error("FromLetters", p, letters, back, ok)
		}
	}
	if tieless < 50 {
		t.Error("few tieless pools", tieless)
	}
}

func TestKnownLetters(t *testing.T) {
	cases := []struct {
		p    pool
		want []int
	}{
		{pool{ordinary}, repeated(6, 0)}, {pool{alone(30)}, repeated(6, 0)}, {pool{{1, 4, 5, 8, 9, 12}, {2, 3, 6, 7, 10, 11}}, []int{0, 1, 1, 0, 0, 1, 1, 0, 0, 1, 1, 0}}, {pool{alone(1), alone(2)}, repeated(6, 0, 1)}, {pool{alone(30), alone(0)}, repeated(6, 1, 0)},
		{pool{{0, 0, 4, 4, 4, 4}, alone(3)}, []int{0, 0, 1, 1, 1, 1, 1, 1, 0, 0, 0, 0}}, {pool{{1, 1, 1, 5, 5, 5}, {2, 2, 2, 4, 4, 4}, {0, 3, 3, 3, 3, 6}}, []int{2, 0, 0, 0, 1, 1, 1, 2, 2, 2, 2, 1, 1, 1, 0, 0, 0, 2}}, {pool{alone(4), alone(1), alone(3), alone(2)}, repeated(6, 1, 3, 2, 0)},
		{pool{{0, 5, 10, 15, 20, 25}, {1, 6, 11, 16, 21, 26}, {2, 7, 12, 17, 22, 27}, {3, 8, 13, 18, 23, 30}}, slices.Repeat([]int{0, 1, 2, 3}, 6)},
	}
	for _, c := range cases {
		if got, ok := impl.LettersOf(c.p); !ok || !slices.Equal(got, c.want) {
			t.Error("LettersOf", c, got, ok)
		}
	}
	for _, p := range []pool{{ordinary, ordinary}, {alone(0), alone(0)}, {ordinary, alone(6)}, {alone(1), ordinary}, {alone(1), alone(2), alone(1)}, {alone(1), alone(2), alone(3), alone(3)}, {alone(7), {1, 2, 3, 4, 5, 6}, {0, 6, 8, 8, 8, 8}}, {{0, 0, 0, 0, 0, 30}, {30, 30, 30, 30, 30, 30}}} {
		if got, ok := impl.IsTieless(p); !ok || got {
			t.Error("IsTieless", p, got, ok)
		}
		if got, ok := impl.LettersOf(p); ok || len(got) != 0 {
			t.Error("LettersOf", p, got, ok)
		}
	}
}

// checkLetters checks all that letters tell.
func checkLetters(t *testing.T, letters []int) {
	t.Helper()
	p, ok := impl.FromLetters(letters)
	if !ok || !slices.Equal(p, lettersFor(letters)) {
		t.Fatal("FromLetters", letters, p, ok)
	}
	back, ok := impl.LettersOf(p)
	if !ok || !slices.Equal(back, letters) {
		t.Fatal("LettersOf", letters, back, ok)
	}
	ways, ok := impl.LettersWays(letters)
	if !ok || !slices.Equal(ways, readingsOf(letters)) {
		t.Fatal("LettersWays", letters, ways, ok)
	}
	turned, ok := impl.TurnLetters(letters)
	if !ok || len(turned) != len(letters) {
		t.Fatal("TurnLetters", letters, turned, ok)
	}
	for i := range letters {
		if turned[i] != letters[len(letters)-1-i] {
			t.Fatal("TurnLetters", letters, turned)
		}
	}
	other, _ := impl.LettersWays(turned)
	orders := ordersFor(len(p))
	for i, o := range orders {
		players := slices.Clone(o.Places[:len(p)])
		slices.Reverse(players)
		if ways[i] != other[slices.Index(orders, orderWith(players...))] {
			t.Fatal("the ways of the turned letters are not those of the opposite orders", letters, ways, other)
		}
	}
}

func TestLettersOfAllKinds(t *testing.T) {
	for _, letters := range allLetters() {
		checkLetters(t, letters)
	}
}

// eachPair calls a function with each list of k times 0 and k times 1.
func eachPair(k int, call func(list []int)) {
	eachList(2*k, 2, func(list []int) {
		if sumOf(list) == k {
			call(slices.Clone(list))
		}
	})
}

func TestAllLettersOfTwoPlayers(t *testing.T) {
	lists, fair := 0, 0
	eachPair(6, func(letters []int) {
		lists++
		checkLetters(t, letters)
		p, _ := impl.FromLetters(letters)
		if even, _ := impl.IsOrderFair(p); even {
			fair++
		}
	})
	if even, ok := impl.CountEven(6); !ok || even != fair || lists != 924 {
		t.Error("CountEven", even, ok, fair, lists)
	}
}

func TestKnownWaysOfLetters(t *testing.T) {
	cases := []struct{ letters, want []int }{
		{repeated(6, 0), []int{6}}, {repeated(6, 0, 1), []int{0, 36}}, {repeated(6, 1, 0), []int{36, 0}}, {slices.Repeat([]int{0, 1}, 6), []int{15, 21}}, {[]int{0, 1, 1, 0, 0, 1, 1, 0, 0, 1, 1, 0}, []int{18, 18}}, {repeated(6, 0, 1, 2), []int{0, 0, 0, 0, 0, 216}},
		{repeated(6, 1, 2, 0), []int{0, 216, 0, 0, 0, 0}}, {fairLetters3, []int{36, 36, 36, 36, 36, 36}}, {slices.Repeat([]int{0, 1, 2}, 6), []int{20, 35, 35, 35, 35, 56}}, {repeated(3, 0, 1, 2, 2, 1, 0), []int{54, 54, 0, 54, 0, 54}},
	}
	for _, c := range cases {
		if got, ok := impl.LettersWays(c.letters); !ok || !slices.Equal(got, c.want) {
			t.Error("LettersWays", c, got, ok)
		}
	}
}

func TestCountEven(t *testing.T) {
	for k, known := range map[int]int{1: 0, 2: 2, 3: 0, 4: 8, 5: 0, 6: 58} {
		want := 0
		eachPair(k, func(list []int) {
			behind, before := 0, 0
			for i, number := range list {
				for _, other := range list[i:] {
					switch {
					case number == 0 && other == 1:
						before++
					case number == 1 && other == 0:
						behind++
					}
				}
			}
			if behind == before {
				want++
			}
		})
		if got, ok := impl.CountEven(k); !ok || got != want || got != known {
			t.Error("CountEven", k, got, ok, want, known)
		}
	}
	for _, k := range append(otherNumbers(1, 6), 8, 31, 32, 64) {
		if got, ok := impl.CountEven(k); ok || got != 0 {
			t.Error("CountEven", k, got, ok)
		}
	}
}

// unevennessFor tells the difference between the most and the fewest ways of letters.
func unevennessFor(letters []int) int {
	ways := readingsOf(letters)
	return slices.Max(ways) - slices.Min(ways)
}

// mendedFor tells the letters of MendLetters, how many other ones have the same difference as
// they, and this.
func mendedFor(letters []int) (best []int, difference, equal int) {
	best, difference = letters, unevennessFor(letters)
	for i := 1; i < len(letters); i++ {
		exchanged := slices.Concat(letters[:i-1], []int{letters[i], letters[i-1]}, letters[i+1:])
		other := unevennessFor(exchanged)
		if other < difference {
			best, difference, equal = exchanged, other, 0
		} else if other == difference && !slices.Equal(best, exchanged) {
			equal++
		}
	}
	return best, difference, equal
}

// checkMended checks the letters that MendLetters makes, and returns whether they are others, and
// how many exchanges do as well.
func checkMended(t *testing.T, letters []int) (others bool, equal int) {
	t.Helper()
	want, difference, equal := mendedFor(letters)
	got, least, ok := impl.MendLetters(letters)
	if !ok || !slices.Equal(got, want) || least != difference {
		t.Fatal("MendLetters", letters, got, least, ok, want, difference)
	}
	return !slices.Equal(got, letters), equal
}

func TestMendedLettersOfTwoPlayers(t *testing.T) {
	left, severalLeft, several, mended := 0, 0, 0, 0
	eachPair(6, func(letters []int) {
		others, equal := checkMended(t, letters)
		switch {
		case others && equal > 0:
			several++
		case others:
			mended++
		case equal > 0:
			severalLeft++
		default:
			left++
		}
	})
	if several < 100 || mended < 10 || left < 10 {
		t.Error("few letters of a kind", several, mended, left, severalLeft)
	}
}

func TestMendedLettersOfAllKinds(t *testing.T) {
	lists := allLetters()
	row := someNumbers(1002)
	for range 6 {
		lists = append(lists, row.someLetters(3))
	}
	for _, letters := range lists {
		checkMended(t, letters)
	}
	// Letters that are one exchange off fair ones are mended.
	for i := range len(fairLetters3) - 1 {
		letters := slices.Clone(fairLetters3)
		letters[i], letters[i+1] = letters[i+1], letters[i]
		if got, least, ok := impl.MendLetters(letters); !ok || least != 0 || !slices.Equal(got, fairLetters3) {
			t.Error("MendLetters", letters, got, least, ok)
		}
	}
}

func TestKnownMendedLetters(t *testing.T) {
	cases := []struct {
		letters, want []int
		least         int
	}{
		{repeated(6, 0), repeated(6, 0), 0},
		{repeated(6, 0, 1), []int{0, 0, 0, 0, 0, 1, 0, 1, 1, 1, 1, 1}, 34},
		{repeated(6, 1, 0), []int{1, 1, 1, 1, 1, 0, 1, 0, 0, 0, 0, 0}, 34},
		{slices.Repeat([]int{0, 1}, 6), []int{1, 0, 0, 1, 0, 1, 0, 1, 0, 1, 0, 1}, 4},
		{slices.Repeat([]int{1, 0}, 6), []int{0, 1, 1, 0, 1, 0, 1, 0, 1, 0, 1, 0}, 4},
		{[]int{0, 1, 1, 0, 0, 1, 1, 0, 0, 1, 1, 0}, []int{0, 1, 1, 0, 0, 1, 1, 0, 0, 1, 1, 0}, 0},
		{[]int{0, 1, 1, 0, 0, 1, 0, 1, 0, 1, 1, 0}, []int{1, 0, 1, 0, 0, 1, 0, 1, 0, 1, 1, 0}, 0},
		{fairLetters3, fairLetters3, 0},
		// Two exchanges do equally well, and the first one is taken.
		{repeated(6, 0, 1, 2), []int{0, 0, 0, 0, 0, 1, 0, 1, 1, 1, 1, 1, 2, 2, 2, 2, 2, 2}, 210},
	}
	for _, c := range cases {
		if got, least, ok := impl.MendLetters(c.letters); !ok || !slices.Equal(got, c.want) || least != c.least {
			t.Error("MendLetters", c, got, least, ok)
		}
	}
}

// poolFails checks that a list has no orders of players.
func poolFails(t *testing.T, p pool) {
	t.Helper()
	for number := range 2 {
		if got, ok := impl.OrderOf(p, number); ok || got != (order{}) {
			t.Error("OrderOf", p, number, got, ok)
		}
	}
	if got, ok := impl.OrderWays(p); ok || len(got) != 0 {
		t.Error("OrderWays", p, got, ok)
	}
	if got, ok := impl.TieWays(p); ok || got != 0 {
		t.Error("TieWays", p, got, ok)
	}
	for place := range 2 {
		if got, ok := impl.WaysAt(p, 0, place); ok || got != 0 {
			t.Error("WaysAt", p, place, got, ok)
		}
	}
	for name, call := range map[string]func([][6]int) (bool, bool){"IsOrderFair": impl.IsOrderFair, "IsPlaceFair": impl.IsPlaceFair, "IsFirstFair": impl.IsFirstFair, "IsTieless": impl.IsTieless} {
		if got, ok := call(p); ok || got {
			t.Error(name, p, got, ok)
		}
	}
	if got, ok := impl.LettersOf(p); ok || len(got) != 0 {
		t.Error("LettersOf", p, got, ok)
	}
}

func TestPoolsWithoutPlayers(t *testing.T) {
	for _, p := range noPools() {
		poolFails(t, p)
	}
	poolFails(t, make(pool, 1<<20))
	poolFails(t, pool{alone(1), alone(2), alone(3), alone(4), alone(5)})
}

func TestNumbersOfRollsPlayersAndPlacesThatAreNotValid(t *testing.T) {
	for _, p := range []pool{{ordinary}, {alone(0)}, {ordinary, ordinary}, {alone(1), alone(2)}, {alone(1), alone(2), alone(3)}, {alone(1), alone(2), alone(3), alone(4)}, lettersFor(fairLetters3)} {
		for _, number := range otherNumbers(0, outcomes(p)-1) {
			if got, ok := impl.OrderOf(p, number); ok || got != (order{}) {
				t.Error("OrderOf", p, number, got, ok)
			}
		}
		for _, number := range append(otherNumbers(0, len(p)-1), 3, 4) {
			for _, other := range []int{0, len(p) - 1, len(p), number} {
				if number < len(p) && number >= 0 {
					continue
				}
				if got, ok := impl.WaysAt(p, number, other); ok || got != 0 {
					t.Error("WaysAt", p, number, other, got, ok)
				}
				if got, ok := impl.WaysAt(p, other, number); ok || got != 0 {
					t.Error("WaysAt", p, other, number, got, ok)
				}
			}
		}
	}
}

func TestListsThatAreNoLetters(t *testing.T) {
	for _, list := range noLetters() {
		if got, ok := impl.FromLetters(list); ok || len(got) != 0 {
			t.Error("FromLetters", list, got, ok)
		}
		if got, ok := impl.TurnLetters(list); ok || len(got) != 0 {
			t.Error("TurnLetters", list, got, ok)
		}
		if got, ok := impl.LettersWays(list); ok || len(got) != 0 {
			t.Error("LettersWays", list, got, ok)
		}
		if got, least, ok := impl.MendLetters(list); ok || len(got) != 0 || least != 0 {
			t.Error("MendLetters", list, got, least, ok)
		}
	}
}

func TestArgumentsAreLeftByChapter10(t *testing.T) {
	whole := pool{{1, 4, 5, 8, 9, 12}, {2, 3, 6, 7, 10, 11}, alone(30), alone(0), {6, 5, 4, 3, 2, 1}, alone(-1)}
	kept := copyOf(whole)
	for size := range len(whole) + 1 {
		p := whole[:size]
		for number := -1; number < 40; number++ {
			impl.OrderOf(p, number)
		}
		impl.OrderWays(p)
		impl.TieWays(p)
		for place := -1; place <= 4; place++ {
			impl.WaysAt(p, place, place)
		}
		impl.IsOrderFair(p)
		impl.IsPlaceFair(p)
		impl.IsFirstFair(p)
		impl.IsTieless(p)
		impl.LettersOf(p)
		if !reflect.DeepEqual(whole, kept) {
			t.Fatal("the pool became", whole, kept)
		}
	}
	lists := append(allLetters(), []int{0, 1, 0, 1, 0, 1, 0, 1, 0, 1, 0, 1, 2, 2, 2}, []int{5, -1, 6, math.MaxInt, 0, 1, 2, math.MinInt}, repeated(5, 0, 1))
	for _, list := range lists {
		before := slices.Clone(list)
		for size := range len(list) + 1 {
			impl.FromLetters(list[:size])
			impl.TurnLetters(list[:size])
			impl.LettersWays(list[:size])
			impl.MendLetters(list[:size])
		}
		if !slices.Equal(list, before) {
			t.Fatal("the list became", list, before)
		}
	}
}

// isNewList checks that a list of numbers is made anew by each call, and not of an argument.
func isNewList(t *testing.T, name string, argument []int, call func() []int) {
	t.Helper()
	first := call()
	kept, before := slices.Clone(first), slices.Clone(argument)
	for i := range first {
		first[i] = -7
	}
	_ = append(first, -8)
	if second := call(); !slices.Equal(second, kept) || !slices.Equal(argument, before) || len(kept) == 0 {
		t.Error("a result is not new", name, second, kept, argument, before)
	}
}

func TestResultsOfChapter10AreNew(t *testing.T) {
	p := pool{{1, 4, 5, 8, 9, 12}, {2, 3, 6, 7, 10, 11}}
	isNewList(t, "OrderWays", nil, func() []int { ways, _ := impl.OrderWays(p); return ways })
	isNewList(t, "LettersOf", nil, func() []int { letters, _ := impl.LettersOf(p); return letters })
	for _, letters := range [][]int{repeated(6, 0), repeated(6, 0, 1), fairLetters3, slices.Repeat([]int{0, 1}, 6)} {
		isNewList(t, "TurnLetters", letters, func() []int { turned, _ := impl.TurnLetters(letters); return turned })
		isNewList(t, "LettersWays", letters, func() []int { ways, _ := impl.LettersWays(letters); return ways })
		isNewList(t, "MendLetters", letters, func() []int { mended, _, _ := impl.MendLetters(letters); return mended })
	}
	orders, _ := impl.OrdersOf(3)
	for i := range orders {
		orders[i] = order{}
	}
	if again, ok := impl.OrdersOf(3); !ok || !slices.Equal(again, ordersFor(3)) {
		t.Error("OrdersOf", again, ok)
	}
	first, _ := impl.FromLetters(fairLetters3)
	first[0], first[1] = alone(-1), alone(-1)
	if again, ok := impl.FromLetters(fairLetters3); !ok || !slices.Equal(again, lettersFor(fairLetters3)) {
		t.Error("FromLetters", again, ok)
	}
}
