package bind

import (
	"slices"
	"strings"
	"testing"

	"carillon/api"
)

// slotted is a text with slots, [name|right|wrong]: the wrong text stands there in a source that has the fault of that name, the right one in others. Several slots may have one name; the mark in one of their wrong texts is the fault's place. What comes of a fault beside itself comes behind it in the chapter's order.
type slotted string

// of has the name and a point ahead of each slot's name, and name in the place of NAME.
func (s slotted) of(name string) slotted {
	text := strings.ReplaceAll(string(s), "[", "["+name+".")
	return slotted(strings.ReplaceAll(text, "NAME", name))
}

// source is s with these faults, and where they are (0, if no mark says so).
func (s slotted) source(faults []string) (src string, places map[string]int) {
	places = make(map[string]int)
	parts := strings.Split(string(s), "[")
	src = parts[0]
	for _, part := range parts[1:] {
		slot, behind, _ := strings.Cut(part, "]")
		texts := strings.Split(slot, "|")
		text := texts[1]
		if slices.Contains(faults, texts[0]) {
			text = texts[2]
			if at := strings.Index(text, "@"); at >= 0 {
				places[texts[0]] = len(src) + at
				text = strings.Replace(text, "@", "", 1)
			}
		}
		src += text + behind
	}
	return src, places
}

// eqsOfAll are what nodes and flows may tell.
const eqsOfAll slotted = `
var v: int; [var|u|@x]: int; [vars|t|@v]: bool; q: int; p1: int; p2: int; p3: int; p4: int; p5: int; p6: int; [untold|s|@s]: int; let
	[unknown|y|@k] = x;
	[input|z|@x] = x;
	v = x;
	[told|u|@v] = x;
	[whole|t|(t, q)] = [whole|x|@x]; [whole|q = x;|]
`

const nodeSlots slotted = `
[arity||@]node NAME(x: int; [in|w|@x]: int) returns ([arity|y: int; z: int|])` + eqsOfAll + `
	p1 = 1 + [name|x|@k];
	p2 = [callee|n11|@k](x);
	p3 = [flow|n11|@f11](x);
	p4 = -[args|n11(x)|@n11(x, x)];
	p5 = [outs|n11|@n12](x);
	p6 = [place|not|@tail] x;
	[untold|s = x;|]
tel`

const flowEqs = eqsOfAll + `
	p1 = tail [name|x|@k];
	p2 = [callee|f11|@k](x);
	p3 = 5 fby [args|f21(x, x)|@f21(x)];
	p4 = [outs|f11|@f12](x);
	p5 = f11([place|x *^ 2|@x + x]);
	p6 = [first|0|@x] fby x;
	[untold|s = x;|]
tel`

const flowSlots slotted = `
[arity||@]flow NAME(x: int; [in|w|@x]: int; [rate|r|@r]: int[rate|| rate (5, 0)]) returns ([arity|y: int; z: int|])` + flowEqs

// dueSlots has its faults of lists among the outputs, so that it can have no inputs beside them.
func dueSlots() slotted {
	const head = `
[arity||@]flow NAME([arity|x: int|]) returns (y: int; [out|q|@y]: int; [rate|z|@z]: int[rate|| due 7])`
	eqs := strings.Replace(string(flowEqs), "q: int; ", "", 1)
	return head + slotted(strings.Replace(eqs, "[var|u|@x]", "[var|u|@y]", 1))
}

const mainSlots slotted = `
[arity||@]flow NAME(x: int rate (5, 0); [in|w|@x]: int rate (5, 0); [rate|r|@r]: int[rate| rate (5, 0)|]) returns ([arity|y: int; z: int|])` + flowEqs

const cycleSlots slotted = `
[cycle|node|@node] c1(x: int) returns (y: int) let y = [cycle|x|c2(x)]; tel
node c2(x: int) returns (y: int) let y = c1(x); tel`

// planted is a fault of a program: the name of its slots, and its error.
type planted struct {
	name string
	err  api.Errno
}

// faultsOf are the faults of a node of that name, told by the names of its slots.
func faultsOf(node, names string) (list []planted) {
	errs := map[string]api.Errno{
		"in": api.ErrTwice, "out": api.ErrTwice, "var": api.ErrTwice, "vars": api.ErrTwice,
		"arity": api.ErrArity, "rate": api.ErrRate,
		"unknown": api.ErrUnknown, "input": api.ErrInput, "told": api.ErrTwice,
		"whole": api.ErrArity, "name": api.ErrUnknown, "callee": api.ErrUnknown, "flow": api.ErrPlace,
		"args": api.ErrArity, "outs": api.ErrArity, "place": api.ErrPlace, "first": api.ErrPlace,
		"untold": api.ErrUntold,
	}
	for _, name := range strings.Fields(names) {
		list = append(list, planted{node + "." + name, errs[name]})
	}
	return list
}

// template is a program that can have each fault, and these in the chapter's order.
func template() (text slotted, faults []planted) {
	const inNode = "in var vars arity unknown input told whole name callee flow args outs place untold"
	const inFlow = "in var vars arity rate unknown input told whole name callee args outs place first untold"
	faults = []planted{{"twice", api.ErrTwice}, {"main", api.ErrMain}}
	for _, n := range []struct {
		text        slotted
		name, names string
	}{
		{nodeSlots, "a", inNode},
		{flowSlots, "b", inFlow},
		{mainSlots, "m", inFlow},
		{nodeSlots, "d", inNode},
		{dueSlots(), "e", strings.Replace(inFlow, "in ", "out ", 1)},
	} {
		one := n.text.of(n.name)
		if n.name == "m" {
			one = slotted(strings.Replace(string(one), "flow m", "flow [main|m|mm]", 1))
		}
		text += one
		faults = append(faults, faultsOf(n.name, n.names)...)
	}
	text += cycleSlots + "\n" + callable + "\n[twice|node z|@node a](x: int) returns (y: int) let y = x; tel"
	return text, append(faults, planted{"cycle", api.ErrCycle})
}

// P7.1: each fault alone, and each two, in one node and in two: the first in the chapter's order is told; and the first of all.
func TestFaultsTogether(t *testing.T) {
	text, all := template()
	ask := func(faults ...planted) {
		t.Helper()
		var names []string
		for _, f := range faults {
			names = append(names, f.name)
		}
		src, places := text.source(names)
		p := program(t, src)
		var want api.Fault
		if len(faults) > 0 {
			want = api.Fault{At: places[names[0]], Err: faults[0].err}
		}
		wantFault(t, strings.Join(names, ", "), Check(p, "m"), want)
	}
	ask()
	for i, first := range all {
		ask(first)
		for _, second := range all[i+1:] {
			ask(first, second)
		}
		ask(all[i:]...)
	}
}
