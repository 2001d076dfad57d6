package seal_test

import (
	"bytes"
	"testing"

	"bulwark/seal"
)

// P304: each tag holds for its own node and body, and for none of the others.
func TestP304EachAgainstEach(t *testing.T) {
	list := []uint64{1, 2, 127, 128, 129, 1<<64 - 1}
	for _, real := range kinds {
		b := book(t, real, list...)
		texts := bodies()[:12]
		tags := map[uint64][][]byte{}
		for _, node := range list {
			for _, body := range texts {
				tags[node] = append(tags[node], tag(t, b, node, body))
			}
		}
		for _, node := range list {
			for i, body := range texts {
				for _, other := range list {
					for j := range texts {
						holds(t, b, node, body, tags[other][j], node == other && i == j, true)
					}
				}
			}
		}
		many(t, b, len(list)*len(texts))
	}
}

// A node's number and a body stand apart: what ends in one does not begin the other.
func TestP304NumberAndBodyApart(t *testing.T) {
	for _, real := range kinds {
		b := book(t, real, 1, 2, 130)
		said := tag(t, b, 130, []byte{1, 2})
		holds(t, b, 130, []byte{1, 2}, said, true, true)
		holds(t, b, 130, []byte{2}, said, false, false)
		holds(t, b, 2, []byte{1, 2}, said, false, false)
		holds(t, b, 1, []byte{2}, said, false, false)
		many(t, b, 1)
	}
}

// model: a book, told by a set of what was said.
type model struct {
	real  bool
	known map[uint64]bool
	said  map[uint64]map[string]bool
}

func (m *model) say(node uint64, body []byte) {
	if m.known[node] {
		if m.said[node] == nil {
			m.said[node] = map[string]bool{}
		}
		m.said[node][string(body)] = true
	}
}

func (m *model) many() int {
	sum := 0
	for _, texts := range m.said {
		sum += len(texts)
	}
	return sum
}

// follows: whether the book answers as the model does, by what two steps of a script ask.
func follows(t *testing.T, b *seal.Book, m *model, node, from uint64, body, text []byte) {
	t.Helper()
	right := wantTag(m.real, []byte(master), from, text)
	said := m.said[node][string(body)]
	mine := node == from && bytes.Equal(body, text)
	check := m.known[node] && mine && (m.real || said)
	holds(t, b, node, body, right, check, said)
	if !m.real && b.Forged(node, body, right) {
		t.Errorf("a book that is not real takes %d and %q for forged", node, body)
	}
	many(t, b, m.many())
}

func runScript(t *testing.T, real bool, script []byte) {
	t.Helper()
	b := book(t, real, 1, 2, 4)
	m := &model{real, map[uint64]bool{1: true, 2: true, 4: true}, map[uint64]map[string]bool{}}
	for ; len(script) >= 3; script = script[3:] {
		node, from := uint64(script[0]%6), uint64(script[0]/6%6)
		body := bytes.Repeat([]byte("x"), int(script[1]%5))
		text := bytes.Repeat([]byte("x"), int(script[2]%5))
		if script[1] >= 128 {
			b.Tag(node, body)
			m.say(node, body)
		}
		follows(t, b, m, node, from, body, text)
		follows(t, b, m, from, from, text, text)
	}
}

// script: bytes without a short rule.
func script(size int) []byte {
	out := make([]byte, size)
	x := uint32(7)
	for i := range out {
		x = x*1664525 + 1013904223
		out[i] = byte(x >> 24)
	}
	return out
}

func TestP304Scripts(t *testing.T) {
	for _, real := range kinds {
		runScript(t, real, script(3000))
	}
}

func FuzzP304(f *testing.F) {
	f.Add(true, script(60))
	f.Add(false, script(60))
	f.Fuzz(runScript)
}
