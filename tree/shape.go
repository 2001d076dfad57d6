package tree

import (
	"bytes"
	"slices"
)

// leaf: an item, with its key's level, which is dear to ask for.
type leaf struct {
	level      int
	key, value []byte
}

// shape makes the nodes of leaves that rise.
func shape(l []leaf) *Node {
	if len(l) == 0 {
		return nil
	}
	n := &Node{Level: l[0].level}
	for _, x := range l {
		n.Level = max(n.Level, x.level)
	}
	from := 0
	for i, x := range l {
		if x.level == n.Level {
			n.Kids = append(n.Kids, shape(l[from:i:i]))
			n.Keys = append(n.Keys, x.key)
			n.Vals = append(n.Vals, x.value)
			from = i + 1
		}
	}
	n.Kids = append(n.Kids, shape(l[from:]))
	return n
}

// with makes the nodes on the leaf's way anew, and shares all others.
func with(n *Node, x leaf) *Node {
	if n == nil || n.Level < x.level {
		left, right := cut(n, x.key)
		return &Node{x.level, [][]byte{x.key}, [][]byte{x.value}, []*Node{left, right}}
	}
	i, has := place(n, x.key)
	if n.Level > x.level {
		return withKid(n, i, with(n.Kids[i], x))
	}
	if has {
		return &Node{n.Level, n.Keys, changed(n.Vals, i, i+1, x.value), n.Kids}
	}
	left, right := cut(n.Kids[i], x.key)
	return &Node{
		Level: n.Level,
		Keys:  changed(n.Keys, i, i, x.key),
		Vals:  changed(n.Vals, i, i, x.value),
		Kids:  changed(n.Kids, i, i+1, left, right),
	}
}

// without asks for a key that is there.
func without(n *Node, key []byte) *Node {
	i, has := place(n, key)
	if !has {
		return withKid(n, i, without(n.Kids[i], key))
	}
	kid := join(n.Kids[i], n.Kids[i+1])
	if len(n.Keys) == 1 {
		return kid
	}
	return &Node{
		Level: n.Level,
		Keys:  changed(n.Keys, i, i+1),
		Vals:  changed(n.Vals, i, i+1),
		Kids:  changed(n.Kids, i, i+2, kid),
	}
}

func withKid(n *Node, i int, kid *Node) *Node {
	return &Node{n.Level, n.Keys, n.Vals, changed(n.Kids, i, i+1, kid)}
}

// cut parts the items below a key, that is none of them, from those above it. A part that has no key of the node's level is what its kid leaves of it.
func cut(n *Node, key []byte) (left, right *Node) {
	if n == nil {
		return nil, nil
	}
	i, _ := place(n, key)
	left, right = cut(n.Kids[i], key)
	if i > 0 {
		left = &Node{n.Level, n.Keys[:i:i], n.Vals[:i:i], changed(n.Kids[:i], i, i, left)}
	}
	if i < len(n.Keys) {
		right = &Node{n.Level, n.Keys[i:], n.Vals[i:], changed(n.Kids[i:], 0, 1, right)}
	}
	return left, right
}

// join: the items of right stand above all those of left.
func join(left, right *Node) *Node {
	switch {
	case left == nil:
		return right
	case right == nil:
		return left
	case left.Level < right.Level:
		return withKid(right, 0, join(left, right.Kids[0]))
	}
	last := len(left.Keys)
	if left.Level > right.Level {
		return withKid(left, last, join(left.Kids[last], right))
	}
	kids := changed(right.Kids, 0, 1, join(left.Kids[last], right.Kids[0]))
	return &Node{
		Level: left.Level,
		Keys:  changed(left.Keys, last, last, right.Keys...),
		Vals:  changed(left.Vals, last, last, right.Vals...),
		Kids:  changed(left.Kids, last, last+1, kids...),
	}
}

// changed: l with others in place of those from i on and ahead of j. What is appended to has no room of l's own, so that l stays as it is for the trees that share it.
func changed[T any](l []T, i, j int, others ...T) []T {
	return append(append(l[:i:i], others...), l[j:]...)
}

// place: where the key stands in the node, or which kid it belongs to.
func place(n *Node, key []byte) (int, bool) {
	return slices.BinarySearchFunc(n.Keys, key, bytes.Compare)
}

func find(n *Node, key []byte) ([]byte, bool) {
look:
	if n == nil {
		return nil, false
	}
	i, has := place(n, key)
	if has {
		return n.Vals[i], true
	}
	n = n.Kids[i]
	goto look
}

// walk hands out the items whose keys are not below lo, rising, while hand asks for more; did it to the end?
func walk(n *Node, lo []byte, hand func(key, value []byte) bool) bool {
	if n == nil {
		return true
	}
	i, _ := place(n, lo)
	for ; i < len(n.Keys); i++ {
		if !walk(n.Kids[i], lo, hand) || !hand(n.Keys[i], n.Vals[i]) {
			return false
		}
	}
	return walk(n.Kids[i], lo, hand)
}

func copyOf(n *Node) *Node {
	if n == nil {
		return nil
	}
	made := &Node{Level: n.Level}
	for i, key := range n.Keys {
		made.Keys = append(made.Keys, own(key))
		made.Vals = append(made.Vals, own(n.Vals[i]))
	}
	for _, kid := range n.Kids {
		made.Kids = append(made.Kids, copyOf(kid))
	}
	return made
}
