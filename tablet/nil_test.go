package tablet_test

import (
	"fmt"
	"testing"

	"bulwark/api"
	"bulwark/tablet"
)

// P1001 to P1003: what is asked of no tablet.
func TestP1001Nil(t *testing.T) {
	var x *tablet.Tablet
	from, to := x.Bounds()
	is(t, "from", from, "")
	is(t, "to", to, "")
}

func TestP1002Nil(t *testing.T) {
	var x *tablet.Tablet
	for _, o := range append(rightOps(), wrongOps()...) {
		sameResult(t, fmt.Sprint("kind ", o.Kind), x.Apply(o), api.Result{E: api.Nil})
	}
}

func TestP1003Nil(t *testing.T) {
	var x *tablet.Tablet
	is(t, "Cells", len(x.Cells()), 0)
	is(t, "Tree", x.Tree(), nil)
	is(t, "Root", len(x.Root()), 0)
	is(t, "Clone", x.Clone(), nil)
}

// Rule 1: of a tablet that New did not make, nothing panics; it is the empty one of all rows.
func TestP1003Zero(t *testing.T) {
	x := new(tablet.Tablet)
	holds(t, "zero", x, "", "", nil)
	holds(t, "its clone", x.Clone(), "", "", nil)
	does(t, "Put", x, put(at("b", 1), "v"))
	holds(t, "behind it", x, "", "", []api.Cell{with(at("b", 1), "v")})
}
