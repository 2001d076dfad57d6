package tablet

import (
	"bytes"
	"slices"

	"bulwark/api"
	"bulwark/cell"
	"bulwark/op"
)

func (t *Tablet) Apply(o api.Op) api.Result {
	switch {
	case t == nil:
		return only(api.Nil)
	case op.Right(o) != api.OK:
		return only(api.BadOp)
	case t.isOutside(o):
		return only(api.Outside)
	}
	before := t.items
	r := t.do(o)
	if r.E != api.OK {
		t.items = before
	}
	return r
}

// only: a result that has nothing but its kind.
func only(k api.Kind) api.Result {
	return api.Result{E: k}
}

// isOutside lets a scan end at to, and begin there: it asks for no row behind the bounds then.
func (t *Tablet) isOutside(o api.Op) bool {
	if o.Kind != api.Scan {
		return !t.hasRow(o.K.Row)
	}
	return o.K.Row < t.from || t.isAbove(o.K.Row) || t.isAbove(o.To)
}

// isAbove: no row is above an empty to, and an empty one is above none.
func (t *Tablet) isAbove(row string) bool {
	return t.to != "" && row > t.to
}

// do may leave a change behind beside an error: Apply takes it back.
func (t *Tablet) do(o api.Op) api.Result {
	switch o.Kind {
	case api.CheckPut:
		if !t.meets(o) {
			return only(api.Refused)
		}
		fallthrough
	case api.Put:
		return only(t.put(api.Cell{K: o.K, Value: o.Value}))
	case api.DelCell:
		return only(t.markGone(o.K))
	case api.DelColumn:
		return only(t.takeAll(t.column(o.K)))
	case api.DelRow:
		return only(t.takeAll(t.row(o.K.Row)))
	case api.Batch:
		return only(t.doAll(o.Sub))
	case api.Get:
		return t.get(o.K)
	}
	return t.scan(o.K.Row, o.To)
}

func (t *Tablet) put(c api.Cell) api.Kind {
	column := t.column(c.K)
	if !has(column, c.K) && len(column) < api.MaxVersions && t.items.Len() >= api.MaxCells {
		return api.Full
	}
	t.lay(c)
	// the cell that was put may be the one that goes
	if column = t.column(c.K); len(column) > api.MaxVersions {
		t.take(column[len(column)-1])
	}
	return api.OK
}

func (t *Tablet) markGone(k api.Key) api.Kind {
	there := slices.DeleteFunc(t.column(k), isGone)
	if !has(there, k) {
		return api.Missing
	}
	t.lay(api.Cell{K: k, Gone: true})
	return api.OK
}

func (t *Tablet) takeAll(l []api.Cell) api.Kind {
	if len(l) == 0 {
		return api.Missing
	}
	for _, c := range l {
		t.take(c)
	}
	return api.OK
}

func (t *Tablet) doAll(parts []api.Op) api.Kind {
	for _, part := range parts {
		if r := t.do(part); r.E != api.OK {
			return r.E
		}
	}
	return api.OK
}

func (t *Tablet) get(k api.Key) api.Result {
	column := t.column(k)
	if len(column) == 0 || column[0].Gone {
		return only(api.Missing)
	}
	return api.Result{Cells: []api.Cell{column[0]}}
}

// meets: is what Get would tell what a CheckPut asks for?
func (t *Tablet) meets(o api.Op) bool {
	r := t.get(o.K)
	if !o.Has {
		return r.E != api.OK
	}
	return r.E == api.OK && bytes.Equal(r.Cells[0].Value, o.Want)
}

func (t *Tablet) scan(from, to string) api.Result {
	l := t.among(from, to, func(c api.Cell) bool { return !c.Gone })
	most := min(len(l), api.MaxScan)
	return api.Result{Cells: l[:most], More: len(l) > most}
}

// column: its cells, the newest first, since keys of one column stand so.
func (t *Tablet) column(k api.Key) []api.Cell {
	return t.among(k.Row, "", func(c api.Cell) bool { return cell.Column(c.K, k) })
}

func (t *Tablet) row(row string) []api.Cell {
	return t.among(row, "", func(c api.Cell) bool { return c.K.Row == row })
}

func has(l []api.Cell, k api.Key) bool {
	return slices.ContainsFunc(l, func(c api.Cell) bool { return c.K == k })
}

func isGone(c api.Cell) bool {
	return c.Gone
}
