package bind

import (
	"math/rand"
	"reflect"
	"slices"
	"strconv"
	"testing"

	"carillon/api"
	"carillon/tree"
)

// maker makes programs by chance: first right ones, then changes of these.
type maker struct {
	chance *rand.Rand
	p      api.Program
	calls  [][]int // whom each node may call
}

func (m *maker) one(of ...string) string { return of[m.chance.Intn(len(of))] }

// names are so many of those that a node may have, in no order.
func (m *maker) names(many int) []string {
	all := []string{"a", "b", "c", "d", "e", "f", "g", "h", "n0", "m"}
	m.chance.Shuffle(len(all), func(i, j int) { all[i], all[j] = all[j], all[i] })
	return all[:many]
}

// right is a program in which all is right, but for rings, if they are asked, and main is m.
func (m *maker) right(rings bool) api.Program {
	many := 1 + m.chance.Intn(6)
	m.p = api.Program{Nodes: make([]api.Node, many)}
	m.calls = make([][]int, many)
	main := m.chance.Intn(many)
	order := m.chance.Perm(many)
	for i := range m.p.Nodes {
		m.head(i, i == main)
	}
	for at, i := range order {
		below := order[:at]
		if rings {
			below = order
		}
		for _, j := range below {
			if m.p.Nodes[i].Flow || !m.p.Nodes[j].Flow {
				m.calls[i] = append(m.calls[i], j)
			}
		}
		m.eqs(i)
	}
	return m.p
}

func (m *maker) head(i int, main bool) {
	n := &m.p.Nodes[i]
	n.Name, n.Flow = "n"+strconv.Itoa(i), m.chance.Intn(2) == 0
	if main {
		n.Name, n.Flow = "m", true
	}
	ins, outs, vars := 1+m.chance.Intn(3), 1+m.chance.Intn(3), m.chance.Intn(3)
	for k, name := range m.names(ins + outs + vars) {
		v := api.Param{Name: name, Type: api.TInt}
		switch {
		case k < ins:
			if main {
				v.Rate, v.Period, v.Start = true, 1, 0
			}
			n.Ins = append(n.Ins, v)
		case k < ins+outs:
			if main {
				v.Due = int64(m.chance.Intn(2))
			}
			n.Outs = append(n.Outs, v)
		default:
			n.Vars = append(n.Vars, v)
		}
	}
}

// eqs gives the i-th node equations that tell each of its names once.
func (m *maker) eqs(i int) {
	n := &m.p.Nodes[i]
	var left []string
	for _, v := range slices.Concat(n.Outs, n.Vars) {
		left = append(left, v.Name)
	}
	m.chance.Shuffle(len(left), func(i, j int) { left[i], left[j] = left[j], left[i] })
	for len(left) > 0 {
		q := api.Eq{Names: []string{left[0]}, E: m.expr(i, 1+m.chance.Intn(4))}
		if many := 1 + m.chance.Intn(len(left)); m.chance.Intn(2) == 0 {
			if j := m.callee(i, many); j >= 0 {
				q = api.Eq{Names: slices.Clone(left[:many]), E: m.call(i, j, 2)}
			}
		}
		left = left[len(q.Names):]
		n.Eqs = append(n.Eqs, q)
	}
}

// callee is whom the i-th node may call that has so many outputs, or below 0.
func (m *maker) callee(i, outs int) int {
	for _, at := range m.chance.Perm(len(m.calls[i])) {
		if j := m.calls[i][at]; len(m.p.Nodes[j].Outs) == outs {
			return j
		}
	}
	return -1
}

func (m *maker) call(i, j, depth int) api.Expr {
	e := api.Expr{Kind: api.ExCall, Name: m.p.Nodes[j].Name}
	for range m.p.Nodes[j].Ins {
		e.Args = append(e.Args, m.expr(i, depth))
	}
	return e
}

// expr is right as a part of the i-th node.
func (m *maker) expr(i, depth int) api.Expr {
	n := m.p.Nodes[i]
	if j := m.callee(i, 1); depth > 1 && j >= 0 && m.chance.Intn(3) == 0 {
		return m.call(i, j, depth-1)
	}
	if depth <= 1 || m.chance.Intn(4) == 0 {
		has := slices.Concat(n.Ins, n.Outs, n.Vars)
		return variable(has[m.chance.Intn(len(has))].Name)
	}
	if n.Flow {
		return m.link(func() api.Expr { return m.expr(i, depth-1) })
	}
	return m.value(func() api.Expr { return m.expr(i, depth-1) })
}

func (m *maker) literal() api.Expr {
	switch m.chance.Intn(3) {
	case 0:
		return api.Expr{Kind: api.ExBool, Int: int64(m.chance.Intn(2))}
	case 1:
		return api.Expr{Kind: api.ExNeg, Args: []api.Expr{number(7)}}
	}
	return number(5)
}

// link is an expression that may stand in flows alone.
func (m *maker) link(part func() api.Expr) api.Expr {
	e := api.Expr{Kind: api.ExFby + uint8(m.chance.Intn(6))}
	switch e.Kind {
	case api.ExFby, api.ExCons:
		e.Args = []api.Expr{m.literal()}
	case api.ExLate:
		e.Int, e.Den = 0, 2
	case api.ExUp, api.ExDown:
		e.Int = 2
	}
	e.Args = append(e.Args, part())
	return e
}

// value is an expression that may stand in nodes alone.
func (m *maker) value(part func() api.Expr) api.Expr {
	e := api.Expr{Kind: api.ExNeg + uint8(m.chance.Intn(int(api.ExIf-api.ExNeg)+1))}
	args := 2
	switch e.Kind {
	case api.ExNeg, api.ExNot:
		args = 1
	case api.ExIf:
		args = 3
	}
	if m.chance.Intn(8) == 0 {
		return m.literal()
	}
	for range args {
		e.Args = append(e.Args, part())
	}
	return e
}

// anyone is a number of a node of the program that has what is asked, or below 0.
func (m *maker) anyone(has func(n api.Node) bool) int {
	for _, i := range m.chance.Perm(len(m.p.Nodes)) {
		if has(m.p.Nodes[i]) {
			return i
		}
	}
	return -1
}

// list is one of a node's lists of params.
func (m *maker) list(n *api.Node) *[]api.Param {
	return []*[]api.Param{&n.Ins, &n.Outs, &n.Vars}[m.chance.Intn(3)]
}

func (m *maker) variable() string {
	return m.one("a", "b", "c", "d", "e", "f", "g", "h", "n0", "m", "z")
}

func (m *maker) nodeName() string { return m.one("n0", "n1", "n2", "n3", "n4", "n5", "m", "a") }

// change makes one change by chance, after which the program may still be, as far as names and lists go.
func (m *maker) change() {
	if len(m.p.Nodes) == 0 {
		return
	}
	n := &m.p.Nodes[m.chance.Intn(len(m.p.Nodes))]
	switch m.chance.Intn(12) {
	case 0:
		n.Name = m.nodeName()
	case 1:
		m.chance.Shuffle(len(m.p.Nodes), reflect.Swapper(m.p.Nodes))
	case 2:
		m.flip(n)
	case 3, 4:
		m.changeParams(n)
	case 5:
		m.changeRates()
	case 6, 7, 8:
		m.changeEqs(n)
	default:
		m.changeExpr(n)
	}
}

// flip makes a flow of a node, and a node of a flow.
func (m *maker) flip(n *api.Node) {
	n.Flow = !n.Flow
	for i := range n.Ins {
		n.Ins[i].Rate, n.Ins[i].Period = false, 0
	}
	for i := range n.Outs {
		n.Outs[i].Due = 0
	}
}

func (m *maker) changeParams(n *api.Node) {
	list := m.list(n)
	switch many := len(*list); {
	case many == 0 || m.chance.Intn(4) == 0:
		*list = append(*list, api.Param{Name: m.variable(), Type: api.TBool})
	case m.chance.Intn(3) == 0:
		*list = (*list)[:many-1]
	default:
		(*list)[m.chance.Intn(many)].Name = m.variable()
	}
}

func (m *maker) changeRates() {
	i := m.anyone(func(n api.Node) bool { return n.Flow && len(n.Ins) > 0 && len(n.Outs) > 0 })
	if i < 0 {
		return
	}
	n := &m.p.Nodes[i]
	in, out := &n.Ins[m.chance.Intn(len(n.Ins))], &n.Outs[m.chance.Intn(len(n.Outs))]
	if m.chance.Intn(2) == 0 {
		out.Due = 1 - out.Due
		return
	}
	in.Rate, in.Period = !in.Rate, 1-in.Period
}

func (m *maker) changeEqs(n *api.Node) {
	if len(n.Eqs) == 0 {
		n.Eqs = []api.Eq{{Names: []string{m.variable()}, E: variable(m.variable())}}
		return
	}
	i := m.chance.Intn(len(n.Eqs))
	q := &n.Eqs[i]
	switch m.chance.Intn(6) {
	case 0:
		n.Eqs = slices.Delete(n.Eqs, i, i+1)
	case 1:
		n.Eqs = append(n.Eqs, tree.CopyProgram(api.Program{Nodes: []api.Node{*n}}).Nodes[0].Eqs[i])
	case 2:
		m.chance.Shuffle(len(n.Eqs), reflect.Swapper(n.Eqs))
	case 3:
		q.Names = append(q.Names, m.variable())
	case 4:
		q.Names = q.Names[:max(1, len(q.Names)-1)]
	default:
		q.Names[m.chance.Intn(len(q.Names))] = m.variable()
	}
}

// anyPart is one of e's parts, or e.
func (m *maker) anyPart(e *api.Expr) *api.Expr {
	for len(e.Args) > 0 && m.chance.Intn(3) > 0 {
		e = &e.Args[m.chance.Intn(len(e.Args))]
	}
	return e
}

func (m *maker) changeExpr(n *api.Node) {
	if len(n.Eqs) == 0 {
		return
	}
	e := m.anyPart(&n.Eqs[m.chance.Intn(len(n.Eqs))].E)
	part := func() api.Expr { return variable(m.variable()) }
	switch m.chance.Intn(7) {
	case 0:
		*e = m.link(part)
	case 6:
		*e = m.link(part)
		e.Args[0] = part()
	case 1:
		*e = m.value(part)
	case 2:
		*e = variable(m.variable())
	case 3:
		*e = api.Expr{Kind: api.ExCall, Name: m.nodeName(), Args: slices.Repeat([]api.Expr{part()}, 1+m.chance.Intn(3))}
	case 4:
		if e.Kind == api.ExCall {
			e.Name = m.nodeName()
		}
	default:
		if e.Kind == api.ExCall {
			e.Args = append(e.Args, part())
		}
	}
}

// place gives each part of p a place that no other one has, in no order.
func (m *maker) place(p api.Program) {
	var places []*int
	var ofExpr func(e *api.Expr)
	ofExpr = func(e *api.Expr) {
		places = append(places, &e.At)
		for i := range e.Args {
			ofExpr(&e.Args[i])
		}
	}
	for i := range p.Nodes {
		n := &p.Nodes[i]
		places = append(places, &n.At)
		for _, list := range [][]api.Param{n.Ins, n.Outs, n.Vars} {
			for j := range list {
				places = append(places, &list[j].At)
			}
		}
		for j := range n.Eqs {
			places = append(places, &n.Eqs[j].At)
			ofExpr(&n.Eqs[j].E)
		}
	}
	for i, at := range m.chance.Perm(len(places)) {
		*places[i] = at + 1
	}
}

// wantRightOrder asks of an order what P7.3 says.
func wantRightOrder(t *testing.T, p api.Program, order []int) {
	t.Helper()
	if len(order) != len(p.Nodes) {
		t.Fatalf("%v of %d nodes", order, len(p.Nodes))
	}
	for i, calls := range calling(p) {
		if !slices.Contains(order, i) {
			t.Errorf("%v has no %d", order, i)
		}
		for j, is := range calls {
			if is && slices.Index(order, j) >= slices.Index(order, i) {
				t.Errorf("%v: %d calls %d", order, i, j)
			}
		}
	}
}

// P7.1, P7.2, P7.3: made programs that are right, and changed ones, against all flaws and the order that the chapter asks for; R5, R6.
func TestMade(t *testing.T) {
	m := &maker{chance: rand.New(rand.NewSource(7))}
	told, rung := make(map[api.Errno]int), 0
	for i := range 8000 {
		rings := i%7 == 0
		p := m.right(rings)
		for range i % 5 {
			m.change()
		}
		p = tree.CopyProgram(m.p)
		m.place(p)
		main := "m"
		if i%50 == 49 {
			main = m.nodeName()
		}
		before := tree.CopyProgram(p)
		want := firstFlaw(p, main)
		if i%5 == 0 && main == "m" && want.Err != api.OK && !(rings && want.Err == api.ErrCycle) {
			t.Fatalf("a program that should be right: %v", want)
		}
		err := Check(p, main)
		wantFault(t, "a made program", err, want)
		order, noOrder := Order(p)
		asked, ring := ordered(p)
		wantFault(t, "the order of a made program", noOrder, ring)
		if !slices.Equal(order, asked) {
			t.Errorf("%v, not %v", order, asked)
		}
		if err == nil {
			wantRightOrder(t, p, order)
		}
		if !reflect.DeepEqual(p, before) {
			t.Error("a program was changed")
		}
		wantFault(t, "the same again", Check(p, main), want)
		told[want.Err]++
		if noOrder != nil {
			rung++
		}
		if t.Failed() {
			t.Fatalf("%+v main %s", p, main)
		}
	}
	for _, e := range []api.Errno{api.OK, api.ErrTwice, api.ErrUnknown, api.ErrInput, api.ErrUntold, api.ErrArity, api.ErrPlace, api.ErrCycle, api.ErrRate, api.ErrMain} {
		if told[e] < 50 {
			t.Errorf("error %d is told of %d programs alone", e, told[e])
		}
	}
	if rung < 50 {
		t.Errorf("%d programs with rings alone", rung)
	}
}
