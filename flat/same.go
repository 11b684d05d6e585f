package flat

import (
	"slices"
	"strings"

	"carillon/api"
	"carillon/lists"
	"carillon/tree"
)

// Same is whether a and b are the same, but for their places.
func Same(a, b api.Flat) bool {
	return slices.EqualFunc(a.Vars, b.Vars, sameVar) &&
		slices.Equal(a.Ins, b.Ins) &&
		slices.EqualFunc(a.Calls, b.Calls, sameCall) &&
		slices.EqualFunc(a.Copies, b.Copies, sameCopy) &&
		slices.EqualFunc(a.Outs, b.Outs, sameOut) &&
		slices.EqualFunc(a.Bodies, b.Bodies, sameBody)
}

func sameVar(a, b api.FlatVar) bool {
	a.At = b.At
	return a == b
}

func sameCall(a, b api.Call) bool {
	return a.Body == b.Body && slices.EqualFunc(a.Args, b.Args, sameChain) && slices.Equal(a.Outs, b.Outs)
}

func sameCopy(a, b api.Copy) bool {
	return a.Var == b.Var && sameChain(a.From, b.From)
}

func sameOut(a, b api.FlatOut) bool {
	return a.Name == b.Name && a.Type == b.Type && a.Due == b.Due && sameChain(a.From, b.From)
}

func sameChain(a, b api.Chain) bool {
	return a.Var == b.Var && slices.EqualFunc(a.Links, b.Links, sameLink)
}

func sameLink(a, b api.Link) bool {
	a.At = b.At
	return a == b
}

func sameBody(a, b api.Body) bool {
	return a.Name == b.Name && a.Ins == b.Ins &&
		slices.Equal(a.Vars, b.Vars) && slices.EqualFunc(a.Eqs, b.Eqs, sameEq) && slices.Equal(a.Outs, b.Outs)
}

func sameEq(a, b api.BodyEq) bool {
	return a.Var == b.Var && tree.Same(a.E, b.E)
}

// Copy is f again, with lists of its own.
func Copy(f api.Flat) api.Flat {
	return api.Flat{
		Vars:   lists.Each(f.Vars, copyVar),
		Ins:    slices.Clone(f.Ins),
		Calls:  lists.Each(f.Calls, copyCall),
		Copies: lists.Each(f.Copies, copyCopy),
		Outs:   lists.Each(f.Outs, copyOut),
		Bodies: lists.Each(f.Bodies, copyBody),
	}
}

func copyVar(v api.FlatVar) api.FlatVar {
	v.Name = strings.Clone(v.Name)
	return v
}

func copyCall(c api.Call) api.Call {
	return api.Call{Body: c.Body, Args: lists.Each(c.Args, copyChain), Outs: slices.Clone(c.Outs), At: c.At}
}

func copyCopy(c api.Copy) api.Copy {
	return api.Copy{Var: c.Var, From: copyChain(c.From)}
}

func copyOut(o api.FlatOut) api.FlatOut {
	o.Name, o.From = strings.Clone(o.Name), copyChain(o.From)
	return o
}

func copyChain(c api.Chain) api.Chain {
	c.Links = slices.Clone(c.Links)
	return c
}

func copyBody(b api.Body) api.Body {
	return api.Body{
		Name: strings.Clone(b.Name),
		Ins:  b.Ins,
		Vars: slices.Clone(b.Vars),
		Eqs:  lists.Each(b.Eqs, copyEq),
		Outs: slices.Clone(b.Outs),
	}
}

func copyEq(q api.BodyEq) api.BodyEq {
	return api.BodyEq{Var: q.Var, E: tree.Copy(q.E)}
}
