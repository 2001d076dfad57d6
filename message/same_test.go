package message_test

import (
	"slices"
	"testing"

	"bulwark/api"
	"bulwark/message"
)

func sameBoth(t *testing.T, what string, a, b body, want bool) {
	t.Helper()
	is(t, what, message.Same(a, b), want)
	is(t, what+", the other way round", message.Same(b, a), want)
}

// P1301: each body against each other one.
func TestP1301SameOfRight(t *testing.T) {
	all := slices.Concat(rightBodies(), longBodies())
	for i, a := range all {
		sameBoth(t, a.name+" and a copy", a.x, copyOf(a.x), true)
		sameBoth(t, a.name+" and one with nil lists", copyOf(a.x), bare(a.x), true)
		for _, b := range all[:i] {
			want := string(wholly(a.x)) == string(wholly(b.x))
			sameBoth(t, a.name+" and "+b.name, a.x, b.x, want)
		}
	}
	sameBoth(t, "nothing", body{}, body{}, true)
	sameBoth(t, "nothing, by empty lists", body{}, copyOf(body{}), true)
}

// crowded: a body with something in every part, whatever its kind has.
func crowded() body {
	return body{
		Kind: 7, View: 2, Seq: 3, Sum: fill(32),
		Reqs:  []api.Request{issued(1, 2, fullOp()), issued(3, 4, api.Op{Kind: api.CheckPut, K: key("r", "f", "q", 1), To: "t", Value: []byte("v"), Want: []byte("w"), Has: true})},
		Reply: answered(5, 6, 7, api.Result{E: api.Full, Cells: cells(3), More: true}),
		Cert:  texts(3),
		Sets:  [][]signed{texts(2), {}, texts(3)},
	}
}

// P1301: two that differ in one part are not the same; parts that no right body has count too.
func TestP1301SameOnePart(t *testing.T) {
	parts := map[string]func(x *body){
		"Kind":                 func(x *body) { x.Kind++ },
		"Kind below 0":         func(x *body) { x.Kind = -x.Kind },
		"View":                 func(x *body) { x.View++ },
		"a great View":         func(x *body) { x.View |= 1 << 63 },
		"Seq":                  func(x *body) { x.Seq++ },
		"a great Seq":          func(x *body) { x.Seq |= 1 << 63 },
		"View and Seq":         func(x *body) { x.View, x.Seq = x.Seq, x.View },
		"Sum":                  func(x *body) { x.Sum[31]++ },
		"a shorter Sum":        func(x *body) { x.Sum = x.Sum[:31] },
		"a longer Sum":         func(x *body) { x.Sum = append(x.Sum, 0) },
		"no Sum":               func(x *body) { x.Sum = nil },
		"a request's Client":   func(x *body) { x.Reqs[1].Client++ },
		"a request's Stamp":    func(x *body) { x.Reqs[0].Stamp++ },
		"a request's Kind":     func(x *body) { x.Reqs[0].O.Kind++ },
		"a request's Row":      func(x *body) { x.Reqs[1].O.K.Row += "x" },
		"a request's Family":   func(x *body) { x.Reqs[1].O.K.Family += "x" },
		"a request's Qual":     func(x *body) { x.Reqs[1].O.K.Qual += "x" },
		"a request's Time":     func(x *body) { x.Reqs[1].O.K.Time++ },
		"a request's To":       func(x *body) { x.Reqs[1].O.To = "" },
		"a request's Value":    func(x *body) { x.Reqs[1].O.Value[0]++ },
		"a request's Want":     func(x *body) { x.Reqs[1].O.Want = nil },
		"a request's Has":      func(x *body) { x.Reqs[1].O.Has = false },
		"a request's Sub":      func(x *body) { x.Reqs[0].O.Sub = x.Reqs[0].O.Sub[:7] },
		"a part of a request":  func(x *body) { x.Reqs[0].O.Sub[7].Value[255]++ },
		"one request":          func(x *body) { x.Reqs = x.Reqs[:1] },
		"no request":           func(x *body) { x.Reqs = nil },
		"three requests":       func(x *body) { x.Reqs = append(x.Reqs, api.Request{}) },
		"requests turned":      func(x *body) { slices.Reverse(x.Reqs) },
		"the reply's Client":   func(x *body) { x.Reply.Client++ },
		"the reply's Stamp":    func(x *body) { x.Reply.Stamp++ },
		"the reply's View":     func(x *body) { x.Reply.View++ },
		"the reply's E":        func(x *body) { x.Reply.R.E++ },
		"the reply's More":     func(x *body) { x.Reply.R.More = false },
		"no cells":             func(x *body) { x.Reply.R.Cells = nil },
		"fewer cells":          func(x *body) { x.Reply.R.Cells = x.Reply.R.Cells[:2] },
		"more cells":           func(x *body) { x.Reply.R.Cells = append(x.Reply.R.Cells, api.Cell{}) },
		"cells turned":         func(x *body) { slices.Reverse(x.Reply.R.Cells) },
		"a cell's Row":         func(x *body) { x.Reply.R.Cells[2].K.Row += "x" },
		"a cell's Family":      func(x *body) { x.Reply.R.Cells[2].K.Family = "" },
		"a cell's Qual":        func(x *body) { x.Reply.R.Cells[2].K.Qual += "x" },
		"a cell's Time":        func(x *body) { x.Reply.R.Cells[0].K.Time++ },
		"a cell's Value":       func(x *body) { x.Reply.R.Cells[2].Value[1]++ },
		"a cell's Gone":        func(x *body) { x.Reply.R.Cells[1].Gone = false },
		"no reply":             func(x *body) { x.Reply = api.Reply{} },
		"a text's From":        func(x *body) { x.Cert[2].From++ },
		"a text's B":           func(x *body) { x.Cert[2].B[1]++ },
		"a longer B":           func(x *body) { x.Cert[0].B = []byte{0} },
		"a text's Tag":         func(x *body) { x.Cert[0].Tag[0]++ },
		"no Tag":               func(x *body) { x.Cert[0].Tag = nil },
		"fewer texts":          func(x *body) { x.Cert = x.Cert[:2] },
		"more texts":           func(x *body) { x.Cert = append(x.Cert, signed{}) },
		"texts turned":         func(x *body) { slices.Reverse(x.Cert) },
		"no Cert":              func(x *body) { x.Cert = nil },
		"a set's From":         func(x *body) { x.Sets[2][2].From++ },
		"a set's B":            func(x *body) { x.Sets[2][1].B[0]++ },
		"a set's Tag":          func(x *body) { x.Sets[0][1].Tag[31]++ },
		"a set's texts turned": func(x *body) { slices.Reverse(x.Sets[0]) },
		"a set with one less":  func(x *body) { x.Sets[0] = x.Sets[0][:1] },
		"a set with one more":  func(x *body) { x.Sets[1] = []signed{{}} },
		"sets turned":          func(x *body) { slices.Reverse(x.Sets) },
		"fewer sets":           func(x *body) { x.Sets = x.Sets[:2] },
		"one more set":         func(x *body) { x.Sets = append(x.Sets, nil) },
		"no sets":              func(x *body) { x.Sets = nil },
		"a set's text moved":   func(x *body) { x.Sets[1], x.Sets[2] = x.Sets[2][:1], x.Sets[2][1:] },
	}
	for name, change := range parts {
		x := copyOf(crowded())
		change(&x)
		sameBoth(t, name, crowded(), x, false)
		sameBoth(t, name+", both", x, copyOf(x), true)
	}
	sameBoth(t, "nothing else", crowded(), copyOf(crowded()), true)
}

// P1301: a list without an element and none are alike; one with an empty set and none are not.
func TestP1301SameNilAndEmpty(t *testing.T) {
	for name, pair := range map[string][2]body{
		"Sum":          {{}, {Sum: []byte{}}},
		"Reqs":         {{}, {Reqs: []api.Request{}}},
		"Cells":        {{}, {Reply: api.Reply{R: api.Result{Cells: []api.Cell{}}}}},
		"a Value":      {{Reply: api.Reply{R: api.Result{Cells: []api.Cell{{}}}}}, {Reply: api.Reply{R: api.Result{Cells: []api.Cell{{Value: []byte{}}}}}}},
		"Cert":         {{}, {Cert: []signed{}}},
		"B":            {{Cert: []signed{{}}}, {Cert: []signed{{B: []byte{}}}}},
		"Tag":          {{Cert: []signed{{}}}, {Cert: []signed{{Tag: []byte{}}}}},
		"Sets":         {{}, {Sets: [][]signed{}}},
		"a set":        {{Sets: [][]signed{nil}}, {Sets: [][]signed{{}}}},
		"a set's text": {{Sets: [][]signed{{{}}}}, {Sets: [][]signed{{{B: []byte{}, Tag: []byte{}}}}}},
		"a request's":  {{Reqs: []api.Request{{}}}, {Reqs: []api.Request{{O: api.Op{Value: []byte{}, Want: []byte{}, Sub: []api.Op{}}}}}},
	} {
		sameBoth(t, name, pair[0], pair[1], true)
	}
	sameBoth(t, "a set and none", body{Sets: [][]signed{{}}}, body{}, false)
	sameBoth(t, "a text and none", body{Cert: []signed{{}}}, body{}, false)
	sameBoth(t, "a request and none", body{Reqs: []api.Request{{}}}, body{}, false)
	sameBoth(t, "a cell and none", body{Reply: api.Reply{R: api.Result{Cells: []api.Cell{{}}}}}, body{}, false)
}

// P1301: each pair of one of the changes that Right is held to.
func TestP1301SamePairs(t *testing.T) {
	all := changes()
	for _, n := range plainBodies() {
		var forms []string
		var bodies []body
		for _, c := range all {
			x := n.x
			c.make(&x)
			bodies, forms = append(bodies, x), append(forms, string(wholly(x)))
		}
		for i := range bodies {
			for j := range i {
				if message.Same(bodies[i], bodies[j]) != (forms[i] == forms[j]) {
					t.Errorf("%s: %s and %s: %v", n.name, all[i].name, all[j].name, forms[i] != forms[j])
				}
			}
		}
	}
}

func TestP1301SameMemory(t *testing.T) {
	for _, n := range rightBodies() {
		a, b := copyOf(n.x), copyOf(n.x)
		before := seen(a)
		message.Same(a, b)
		is(t, n.name+": the first", seen(a), before)
		is(t, n.name+": the second", seen(b), before)
	}
}
