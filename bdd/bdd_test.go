package bdd_test

import (
	"math"
	"math/bits"
	"math/rand"
	"testing"

	"wireward/api"
	"wireward/bdd"
)

// table is a function of at most six variables, written apart from the
// package: bit b is 1, if the function is true for the bits b.
type table uint64

// model has the functions of an arena as tables, by their numbers, as Eval
// tells them.
type model struct {
	t      *testing.T
	arena  *bdd.Arena
	vars   int
	most   int
	tables []table
	number map[table]int
}

func newModel(t *testing.T, vars, most int) *model {
	t.Helper()
	a, e := bdd.New(vars, most)
	if e != api.OK || a == nil {
		t.Fatal("New", vars, most, e)
	}
	m := &model{t: t, arena: a, vars: vars, most: most, number: map[table]int{}}
	m.look()
	if len(m.tables) != 2 || m.tables[0] != 0 || m.tables[1] != m.all() {
		t.Fatal("a new arena has", m.tables)
	}
	return m
}

func (m *model) all() table {
	if m.vars == 6 {
		return math.MaxUint64
	}
	return 1<<(1<<m.vars) - 1
}

func (m *model) where(is func(b int) bool) table {
	var x table
	for b := range 1 << m.vars {
		if is(b) {
			x |= 1 << b
		}
	}
	return x
}

func (x table) at(b int) bool { return x>>b&1 == 1 }

func (m *model) set(b, i int, to bool) int {
	if to {
		return b | 1<<(m.vars-1-i)
	}
	return b &^ (1 << (m.vars - 1 - i))
}

func (m *model) get(b, i int) bool { return b>>(m.vars-1-i)&1 == 1 }

func (m *model) variable(i int) table {
	return m.where(func(b int) bool { return m.get(b, i) })
}

func (m *model) fix(x table, i int, to bool) table {
	return m.where(func(b int) bool { return x.at(m.set(b, i, to)) })
}

func (m *model) exists(x table, i int) table { return m.fix(x, i, false) | m.fix(x, i, true) }

func (m *model) swap(x table, i, j int) table {
	return m.where(func(b int) bool {
		return x.at(m.set(m.set(b, i, m.get(b, j)), j, m.get(b, i)))
	})
}

// parts are the two functions of the node of x, that is no constant.
func (m *model) parts(x table) (table, table) {
	for i := range m.vars {
		if low, high := m.fix(x, i, false), m.fix(x, i, true); low != high {
			return low, high
		}
	}
	m.t.Fatal("no variable of", x)
	return 0, 0
}

// look reads what the arena has more than it had, and tells what may not be:
// two numbers of one function, or a node whose parts aren't there.
func (m *model) look() {
	m.t.Helper()
	for f := len(m.tables); f < m.arena.Size(); f++ {
		x := m.where(func(b int) bool {
			is, e := m.arena.Eval(f, b)
			if e != api.OK {
				m.t.Fatal("Eval", f, b, e)
			}
			return is
		})
		if g, ok := m.number[x]; ok {
			m.t.Fatal("one function, two numbers", x, f, g)
		}
		m.tables = append(m.tables, x)
		m.number[x] = f
	}
	if len(m.tables) != m.arena.Size() || len(m.tables) > m.most {
		m.t.Fatal("Size", m.arena.Size(), "of", m.most, "seen", len(m.tables))
	}
	for _, x := range m.tables[2:] {
		low, high := m.parts(x)
		_, okLow := m.number[low]
		_, okHigh := m.number[high]
		if !okLow || !okHigh {
			m.t.Fatal("a node's parts are not there", x, low, high)
		}
	}
}

// lacks is how many nodes x needs that the arena doesn't have.
func (m *model) lacks(x table) int {
	seen := map[table]int{}
	var walk func(x table)
	walk = func(x table) {
		_, has := m.number[x]
		if _, was := seen[x]; was || has {
			return
		}
		seen[x] = 1
		low, high := m.parts(x)
		walk(low)
		walk(high)
	}
	walk(x)
	return len(seen)
}

// holds checks what a call that should make x answered, and what the arena is
// then.
func (m *model) holds(want table, f int, e api.Errno) bool {
	m.t.Helper()
	size := len(m.tables)
	needs := size + m.lacks(want)
	m.look()
	if needs > m.most {
		if e != api.ErrFull || f != 0 || m.arena.Size() != m.most {
			m.t.Fatal("full:", f, e, m.arena.Size(), "of", m.most)
		}
		return false
	}
	if e != api.OK || f < 0 || f >= len(m.tables) || m.tables[f] != want {
		m.t.Fatal("asked", want, "answered", f, e)
	}
	if m.arena.Size() != needs {
		m.t.Fatal("Size", m.arena.Size(), "needed", needs)
	}
	return true
}

// reads checks the calls that make nothing.
func (m *model) reads(f int) {
	m.t.Helper()
	x := m.tables[f]
	if n, e := m.arena.Count(f); e != api.OK || n != bits.OnesCount64(uint64(x)) {
		m.t.Fatal("Count", x, n, e)
	}
	least, any := bits.TrailingZeros64(uint64(x)), x != 0
	if !any {
		least = 0
	}
	if b, ok, e := m.arena.One(f); e != api.OK || b != least || ok != any {
		m.t.Fatal("One", x, b, ok, e)
	}
}

// differs checks Differ of two functions.
func (m *model) differs(f, g int) {
	m.t.Helper()
	apart, size := m.tables[f]^m.tables[g], m.arena.Size()
	least := 0
	if apart != 0 {
		least = bits.TrailingZeros64(uint64(apart))
	}
	if b, ok, e := m.arena.Differ(f, g); e != api.OK || b != least || ok != (apart != 0) || m.arena.Size() != size {
		m.t.Fatal("Differ", m.tables[f], m.tables[g], b, ok, e, m.arena.Size(), size)
	}
}

// calls does every call with functions f, g, h and variables i, j.
func (m *model) calls(f, g, h, i, j int) {
	m.t.Helper()
	x, y, z := m.tables[f], m.tables[g], m.tables[h]
	n, e := m.arena.Var(i)
	m.holds(m.variable(i), n, e)
	n, e = m.arena.Not(f)
	m.holds(m.all()&^x, n, e)
	n, e = m.arena.And(f, g)
	m.holds(x&y, n, e)
	n, e = m.arena.Or(f, g)
	m.holds(x|y, n, e)
	n, e = m.arena.Ite(f, g, h)
	m.holds(x&y|z&^x, n, e)
	n, e = m.arena.Exists(f, i)
	m.holds(m.exists(x, i), n, e)
	n, e = m.arena.Swap(f, i, j)
	m.holds(m.swap(x, i, j), n, e)
	m.node(i, f, g)
	m.reads(f)
	m.differs(f, g)
}

// hangsBehind tells whether x hangs on variables behind i alone.
func (m *model) hangsBehind(x table, i int) bool {
	for j := range i + 1 {
		if m.fix(x, j, false) != m.fix(x, j, true) {
			return false
		}
	}
	return true
}

// node does Node, which takes only what hangs on variables behind i.
func (m *model) node(i, low, high int) {
	m.t.Helper()
	x, y, size := m.tables[low], m.tables[high], m.arena.Size()
	f, e := m.arena.Node(i, low, high)
	if m.hangsBehind(x, i) && m.hangsBehind(y, i) {
		v := m.variable(i)
		m.holds(x&^v|y&v, f, e)
		return
	}
	if f != 0 || e != api.ErrArg || m.arena.Size() != size {
		m.t.Fatal("Node", i, low, high, f, e, m.arena.Size(), size)
	}
}

// P4, P5: all functions of one and of two variables, with each other.
func TestAllOfFew(t *testing.T) {
	for vars := 1; vars <= 2; vars++ {
		m := newModel(t, vars, 100)
		for i := range vars {
			m.calls(0, 1, 0, i, i)
		}
		for range 2 { // every function is there behind the first going through
			for f := 0; f < len(m.tables); f++ {
				for g := 0; g < len(m.tables); g++ {
					for h := 0; h < len(m.tables); h++ {
						for i := range vars {
							m.calls(f, g, h, i, vars-1-i)
						}
					}
				}
			}
		}
		if m.arena.Size() != 1<<(1<<vars) {
			t.Error("functions of", vars, "variables:", m.arena.Size())
		}
	}
}

// P4, P5: calls in any order, in arenas that become full and in such that don't.
func TestAnyCalls(t *testing.T) {
	r := rand.New(rand.NewSource(5))
	for round := range 400 {
		vars := 1 + r.Intn(6)
		most := 2 + r.Intn(60)
		if round%4 == 0 {
			most = api.MaxNodes
		}
		m := newModel(t, vars, most)
		for range 12 {
			// Late functions are the greater ones: they are taken more often.
			pick := func() int {
				if n := len(m.tables); r.Intn(3) > 0 {
					return n - 1 - r.Intn(min(n, 6))
				}
				return r.Intn(len(m.tables))
			}
			m.calls(pick(), pick(), pick(), r.Intn(vars), r.Intn(vars))
		}
	}
}

// take takes every function of another model's arena, the greatest first.
func (m *model) take(from *model) {
	m.t.Helper()
	sizes := [2]int{m.arena.Size(), from.arena.Size()}
	for f := len(from.tables) - 1; f >= 0; f-- {
		g, e := m.arena.Take(from.arena, f)
		if from.vars > m.vars {
			if g != 0 || e != api.ErrArg || m.arena.Size() != sizes[0] {
				m.t.Fatal("Take of more variables", g, e, m.arena.Size())
			}
			continue
		}
		x := m.where(func(b int) bool { return from.tables[f].at(b >> (m.vars - from.vars)) })
		m.holds(x, g, e)
	}
	if from.arena.Size() != sizes[1] {
		m.t.Fatal("Take changed the arena it took from", from.arena.Size(), sizes[1])
	}
}

// grow does some calls, so that there are functions.
func (m *model) grow(r *rand.Rand, calls int) {
	for range calls {
		pick := func() int { return r.Intn(len(m.tables)) }
		m.calls(pick(), pick(), pick(), r.Intn(m.vars), r.Intn(m.vars))
	}
}

// Functions of another arena, of fewer, as many and more variables, with room
// for them and without.
func TestTake(t *testing.T) {
	r := rand.New(rand.NewSource(6))
	for round := range 400 {
		from := newModel(t, 1+r.Intn(5), 60)
		from.grow(r, 8)
		most := 2 + r.Intn(40)
		if round%4 == 0 {
			most = api.MaxNodes
		}
		m := newModel(t, 1+r.Intn(6), most)
		m.grow(r, r.Intn(4))
		m.take(from)
	}
}

// An arena has what it takes of itself.
func TestTakeOfItself(t *testing.T) {
	m := newModel(t, 4, 40)
	m.grow(rand.New(rand.NewSource(8)), 10)
	size := m.arena.Size()
	for f := range m.tables {
		if g, e := m.arena.Take(m.arena, f); g != f || e != api.OK || m.arena.Size() != size {
			t.Error(f, g, e, m.arena.Size())
		}
	}
}

// P4: for each room of an arena, what is told if there is no more.
func TestFull(t *testing.T) {
	for most := 2; most <= 12; most++ {
		m := newModel(t, 4, most)
		last := 0
		for i := range 4 { // the parity of more and more variables
			x := m.tables[last] ^ m.variable(i)
			f, e := m.arena.Var(i)
			if !m.holds(m.variable(i), f, e) {
				break
			}
			n, e := m.arena.Not(f)
			if !m.holds(m.all()&^m.variable(i), n, e) {
				break
			}
			p, e := m.arena.Ite(last, n, f)
			if !m.holds(x, p, e) {
				break
			}
			last = p
		}
		// What is there can be asked for, in a full arena too.
		for f := range m.tables {
			m.reads(f)
			for g := range m.tables {
				m.differs(f, g)
			}
			g, e := m.arena.Or(f, f)
			m.holds(m.tables[f], g, e)
			g, e = m.arena.And(f, 1)
			m.holds(m.tables[f], g, e)
			g, e = m.arena.Swap(f, 2, 2)
			m.holds(m.tables[f], g, e)
		}
	}
}

// P4: the two functions that are always there need no room.
func TestLeastArena(t *testing.T) {
	a, _ := bdd.New(16, 2)
	for _, f := range []int{0, 1} {
		for _, g := range []int{0, 1} {
			if n, e := a.And(f, g); n != f&g || e != api.OK {
				t.Error("And", f, g, n, e)
			}
			if n, e := a.Or(f, g); n != f|g || e != api.OK {
				t.Error("Or", f, g, n, e)
			}
			if b, ok, e := a.Differ(f, g); b != 0 || ok != (f != g) || e != api.OK {
				t.Error("Differ", f, g, b, ok, e)
			}
		}
		if n, e := a.Not(f); n != 1-f || e != api.OK {
			t.Error("Not", f, n, e)
		}
		if n, e := a.Exists(f, 15); n != f || e != api.OK {
			t.Error("Exists", f, n, e)
		}
		if n, e := a.Swap(f, 15, 0); n != f || e != api.OK {
			t.Error("Swap", f, n, e)
		}
		if n, e := a.Count(f); n != f<<16 || e != api.OK {
			t.Error("Count", f, n, e)
		}
		if b, ok, e := a.One(f); b != 0 || ok != (f == 1) || e != api.OK {
			t.Error("One", f, b, ok, e)
		}
	}
	if n, e := a.Var(7); n != 0 || e != api.ErrFull || a.Size() != 2 {
		t.Error("Var", n, e, a.Size())
	}
}

// P4: New's bounds.
func TestNewBounds(t *testing.T) {
	numbers := []int{math.MinInt, -1, 0, 1, 2, 3, 15, 16, 17, 39999, 40000, 40001, math.MaxInt}
	for _, vars := range numbers {
		for _, most := range numbers {
			good := vars >= 1 && vars <= 16 && most >= 2 && most <= 40000
			a, e := bdd.New(vars, most)
			if good && (e != api.OK || a == nil || a.Size() != 2 || a.Vars() != vars) {
				t.Error("New", vars, most, e)
			}
			if !good && (e != api.ErrArg || a != nil) {
				t.Error("New", vars, most, e)
			}
		}
	}
}

// P5, P1: numbers beyond every bound; and nothing is made then.
func TestWrongArguments(t *testing.T) {
	for _, vars := range []int{1, 3, 16} {
		a, _ := bdd.New(vars, 50)
		if _, e := a.Var(0); e != api.OK {
			t.Fatal(e)
		}
		size := a.Size()
		refuses := func(what string, n int, e api.Errno) {
			t.Helper()
			if n != 0 || e != api.ErrArg || a.Size() != size {
				t.Error(what, n, e, a.Size())
			}
		}
		for _, f := range []int{math.MinInt, -1, size, size + 1, 49, 50, 40000, math.MaxInt} {
			for place := range 3 {
				w := [3]int{1, 1, 1}
				w[place] = f
				n, e := a.Ite(w[0], w[1], w[2])
				refuses("Ite", n, e)
			}
			n, e := a.Not(f)
			refuses("Not", n, e)
			n, e = a.And(f, 0)
			refuses("And", n, e)
			n, e = a.And(0, f)
			refuses("And", n, e)
			n, e = a.Or(f, 1)
			refuses("Or", n, e)
			n, e = a.Or(1, f)
			refuses("Or", n, e)
			n, e = a.Node(0, f, 0)
			refuses("Node", n, e)
			n, e = a.Node(0, 0, f)
			refuses("Node", n, e)
			n, e = a.Exists(f, 0)
			refuses("Exists", n, e)
			n, e = a.Swap(f, 0, 0)
			refuses("Swap", n, e)
			n, e = a.Take(a, f)
			refuses("Take", n, e)
			n, e = a.Count(f)
			refuses("Count", n, e)
			n, ok, e := a.One(f)
			refuses("One", n, e)
			is, e := a.Eval(f, 0)
			refuses("Eval", 0, e)
			if ok || is {
				t.Error("One, Eval", ok, is)
			}
			for _, both := range [][2]int{{f, 0}, {1, f}, {f, 2}, {f, f}} {
				n, ok, e := a.Differ(both[0], both[1])
				refuses("Differ", n, e)
				if ok {
					t.Error("Differ", both)
				}
			}
		}
		for _, i := range []int{math.MinInt, -1, vars, vars + 1, 17, 64, math.MaxInt} {
			n, e := a.Var(i)
			refuses("Var", n, e)
			n, e = a.Node(i, 1, 1)
			refuses("Node", n, e)
			n, e = a.Exists(2, i)
			refuses("Exists", n, e)
			n, e = a.Swap(2, i, 0)
			refuses("Swap", n, e)
			n, e = a.Swap(2, 0, i)
			refuses("Swap", n, e)
			n, e = a.Swap(2, i, i)
			refuses("Swap", n, e)
		}
		for _, b := range []int{math.MinInt, -1, 1 << vars, 1<<vars + 1, 1 << 40, math.MaxInt} {
			is, e := a.Eval(1, b)
			refuses("Eval", 0, e)
			if is {
				t.Error("Eval", b)
			}
		}
		if is, e := a.Eval(2, 1<<vars-1); !is || e != api.OK {
			t.Error("Eval of the last bits", is, e)
		}
	}
}

// P1: an arena that New didn't make has nothing, and answers.
func TestZeroArena(t *testing.T) {
	a := new(bdd.Arena)
	if a.Size() != 0 || a.Vars() != 0 {
		t.Error(a.Size(), a.Vars())
	}
	if _, e := a.Var(0); e != api.ErrArg {
		t.Error(e)
	}
	if _, e := a.Ite(0, 0, 0); e != api.ErrArg {
		t.Error(e)
	}
	if _, e := a.Exists(0, 0); e != api.ErrArg {
		t.Error(e)
	}
	if _, e := a.Swap(0, 0, 0); e != api.ErrArg {
		t.Error(e)
	}
	if _, e := a.Take(a, 0); e != api.ErrArg {
		t.Error(e)
	}
	if _, e := a.Eval(0, 0); e != api.ErrArg {
		t.Error(e)
	}
	if _, e := a.Count(0); e != api.ErrArg {
		t.Error(e)
	}
	if _, _, e := a.One(0); e != api.ErrArg {
		t.Error(e)
	}
	if _, _, e := a.Differ(0, 0); e != api.ErrArg {
		t.Error(e)
	}
}

// P5: sixteen variables, the most there may be: each weighs what it should.
func TestSixteen(t *testing.T) {
	a, _ := bdd.New(16, api.MaxNodes)
	parity, other := 0, 1
	for i := 15; i >= 0; i-- {
		v, e := a.Var(i)
		if e != api.OK {
			t.Fatal(e)
		}
		if b, ok, e := a.One(v); b != 1<<(15-i) || !ok || e != api.OK {
			t.Error("One of variable", i, b, ok, e)
		}
		if n, e := a.Count(v); n != 1<<15 || e != api.OK {
			t.Error("Count of variable", i, n, e)
		}
		p, e := a.Ite(v, other, parity)
		if e != api.OK {
			t.Fatal(e)
		}
		if other, e = a.Not(p); e != api.OK {
			t.Fatal(e)
		}
		parity = p
	}
	for b := range 1 << 16 {
		if is, e := a.Eval(parity, b); is != (bits.OnesCount(uint(b))%2 == 1) || e != api.OK {
			t.Fatal("Eval", b, is, e)
		}
	}
	if n, e := a.Count(parity); n != 1<<15 || e != api.OK {
		t.Error("Count", n, e)
	}
	if n, e := a.Exists(parity, 9); n != 1 || e != api.OK {
		t.Error("Exists", n, e)
	}
	if n, e := a.Swap(parity, 15, 0); n != parity || e != api.OK {
		t.Error("Swap", n, e)
	}
}

// P4, P5: functions of many nodes, up to a full arena, by what Eval tells of
// some of their bits.
func TestGreat(t *testing.T) {
	const vars = 16
	r := rand.New(rand.NewSource(7))
	a, _ := bdd.New(vars, api.MaxNodes)
	great, e := anyOf(a, vars, 6000, r)
	if e != api.OK {
		t.Fatal(e)
	}
	second, e := anyOf(a, vars, 500, r)
	if e != api.OK {
		t.Fatal(e)
	}
	both, e := a.And(great, second)
	if e != api.OK {
		t.Fatal(e)
	}
	turned, e := a.Swap(second, 13, 2)
	if e != api.OK {
		t.Fatal(e)
	}
	wide, e := a.Exists(second, 4)
	if e != api.OK {
		t.Fatal(e)
	}
	eval := func(f, b int) bool {
		is, e := a.Eval(f, b)
		if e != api.OK {
			t.Fatal(e)
		}
		return is
	}
	count, apart := 0, -1
	for b := range 1 << vars {
		if apart < 0 && eval(turned, b) != eval(second, b) {
			apart = b
		}
		if eval(both, b) != (eval(great, b) && eval(second, b)) {
			t.Fatal("And", b)
		}
		high, low := b>>13&1, b>>2&1
		if eval(turned, b) != eval(second, b&^(1<<13|1<<2)|high<<2|low<<13) {
			t.Fatal("Swap", b)
		}
		if eval(wide, b) != (eval(second, b|1<<11) || eval(second, b&^(1<<11))) {
			t.Fatal("Exists", b)
		}
		if eval(great, b) {
			count++
		}
	}
	if n, e := a.Count(great); n != count || e != api.OK {
		t.Error("Count", n, count, e)
	}
	if b, ok, e := a.Differ(turned, second); b != apart || !ok || e != api.OK {
		t.Error("Differ", b, apart, ok, e)
	}
	for range 40 {
		if _, e = anyOf(a, vars, 6000, r); e != api.OK {
			break
		}
	}
	if e != api.ErrFull || a.Size() != api.MaxNodes {
		t.Error("never full", e, a.Size())
	}
	if again, e := a.And(second, great); again != both || e != api.OK {
		t.Error("in a full arena", again, both, e)
	}
}

// anyOf is the function of some random bits.
func anyOf(a *bdd.Arena, vars, many int, r *rand.Rand) (int, api.Errno) {
	is := make([]bool, 1<<vars)
	for range many {
		is[r.Intn(len(is))] = true
	}
	return fromBits(a, 0, is)
}

func fromBits(a *bdd.Arena, i int, is []bool) (int, api.Errno) {
	if len(is) == 1 {
		if is[0] {
			return 1, api.OK
		}
		return 0, api.OK
	}
	low, e := fromBits(a, i+1, is[:len(is)/2])
	if e != api.OK {
		return 0, e
	}
	high, e := fromBits(a, i+1, is[len(is)/2:])
	if e != api.OK {
		return 0, e
	}
	v, e := a.Var(i)
	if e != api.OK {
		return 0, e
	}
	return a.Ite(v, high, low)
}

// P2: two arenas share nothing, and calls that make nothing change nothing.
func TestArenasApart(t *testing.T) {
	a, _ := bdd.New(4, 50)
	b, _ := bdd.New(4, 50)
	x, _ := a.Var(3)
	if b.Size() != 2 {
		t.Error("b has", b.Size())
	}
	y, _ := b.Var(0)
	if n, _ := a.Count(x); n != 8 || a.Size() != 3 {
		t.Error("a has", a.Size())
	}
	if bits, _, _ := a.One(x); bits != 1 {
		t.Error("a's variable 3:", bits)
	}
	if bits, _, _ := b.One(y); bits != 8 {
		t.Error("b's variable 0:", bits)
	}
	if b.Size() != 3 {
		t.Error("b has", b.Size())
	}
}
