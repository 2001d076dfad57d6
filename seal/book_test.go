package seal_test

import (
	"bytes"
	"testing"

	"bulwark/api"
	"bulwark/seal"
)

func TestP302Tag(t *testing.T) {
	for _, real := range kinds {
		b := book(t, real, nodes()...)
		for _, node := range nodes() {
			for _, body := range bodies() {
				got := tag(t, b, node, body)
				same(t, "Tag", got, wantTag(real, []byte(master), node, body))
				holds(t, b, node, body, got, true, true)
			}
		}
		many(t, b, len(nodes())*len(bodies()))
	}
}

func TestP302Unknown(t *testing.T) {
	for _, real := range kinds {
		b := book(t, real, 2, 4)
		for _, node := range []uint64{0, 1, 3, 5, 258, 1<<63 + 2, 1<<64 - 1} {
			got, kind := b.Tag(node, []byte("a"))
			if got != nil || kind != api.Unknown {
				t.Errorf("Tag of %d: %x, %v", node, got, kind)
			}
			holds(t, b, node, []byte("a"), wantTag(real, []byte(master), node, []byte("a")), false, false)
		}
		many(t, b, 0)
	}
}

func TestP302SaidTwice(t *testing.T) {
	for _, real := range kinds {
		b := book(t, real, 1, 2)
		for range 3 {
			got := tag(t, b, 1, []byte("a"))
			same(t, "Tag", got, wantTag(real, []byte(master), 1, []byte("a")))
			holds(t, b, 1, []byte("a"), got, true, true)
			many(t, b, 1)
		}
	}
}

func TestP302NoBody(t *testing.T) {
	for _, real := range kinds {
		b := book(t, real, 1)
		same(t, "Tag of nil", tag(t, b, 1, nil), wantTag(real, []byte(master), 1, nil))
		same(t, "Tag of no byte", tag(t, b, 1, []byte{}), wantTag(real, []byte(master), 1, nil))
		many(t, b, 1)
	}
}

// A tag is new memory, a body is neither kept nor changed.
func TestP302Memory(t *testing.T) {
	for _, real := range kinds {
		b := book(t, real, 1)
		for _, first := range []byte("ab") {
			body, check := roomy(t, []byte{first, 'x'})
			spoil(tag(t, b, 1, body))
			check()
			spoil(body)
		}
		many(t, b, 2)
		for _, text := range []string{"ax", "bx"} {
			want := wantTag(real, []byte(master), 1, []byte(text))
			holds(t, b, 1, []byte(text), want, true, true)
			same(t, "Tag again", tag(t, b, 1, []byte(text)), want)
		}
		holds(t, b, 1, []byte{'a' ^ 0xff, 'x' ^ 0xff}, nil, false, false)
	}
}

// The chapter's example.
func TestP303Example(t *testing.T) {
	for _, real := range kinds {
		b := book(t, real, 1, 2)
		said := tag(t, b, 1, []byte("a"))
		holds(t, b, 1, []byte("a"), said, true, true)
		holds(t, b, 2, []byte("a"), said, false, false)
		many(t, b, 1)
	}
}

// A right tag of what was not said: a real book takes it, and tells that it was forged.
func TestP303NotSaid(t *testing.T) {
	for _, real := range kinds {
		b := book(t, real, 1, 2)
		for _, node := range []uint64{1, 2} {
			right := wantTag(real, []byte(master), node, []byte("a"))
			holds(t, b, node, []byte("a"), right, real, false)
			many(t, b, int(node)-1)
			tag(t, b, node, []byte("a"))
			holds(t, b, node, []byte("a"), right, true, true)
			many(t, b, int(node))
		}
	}
}

func TestP303WrongTags(t *testing.T) {
	for _, real := range kinds {
		b := book(t, real, 1, 2)
		for _, said := range []bool{false, true} {
			right := wantTag(real, []byte(master), 1, []byte("a"))
			if said {
				right = tag(t, b, 1, []byte("a"))
			}
			for size := range right {
				holds(t, b, 1, []byte("a"), right[:size], false, said)
			}
			holds(t, b, 1, []byte("a"), nil, false, said)
			holds(t, b, 1, []byte("a"), append(bytes.Clone(right), 0), false, said)
			holds(t, b, 1, []byte("a"), append(bytes.Clone(right), right...), false, said)
			for at := range right {
				for bit := range 8 {
					turned := bytes.Clone(right)
					turned[at] ^= 1 << bit
					holds(t, b, 1, []byte("a"), turned, false, said)
				}
			}
			holds(t, b, 1, []byte("a"), wantTag(!real, []byte(master), 1, []byte("a")), false, said)
			holds(t, b, 1, []byte("a"), make([]byte, 32), false, said)
		}
	}
}

// Tags of another master are those of another real book, but an ideal one knows no master.
func TestP303OtherMaster(t *testing.T) {
	for _, real := range kinds {
		b := book(t, real, 1)
		tag(t, b, 1, []byte("a"))
		holds(t, b, 1, []byte("a"), wantTag(real, []byte("other"), 1, []byte("a")), !real, true)
	}
}

// What is asked changes nothing, neither in the book nor in what is handed in.
func TestP303AskingChangesNothing(t *testing.T) {
	for _, real := range kinds {
		b := book(t, real, 1)
		body, checkBody := roomy(t, []byte("a"))
		right, checkTag := roomy(t, wantTag(real, []byte(master), 1, body))
		for range 2 {
			holds(t, b, 1, body, right, real, false)
			checkBody()
			checkTag()
			many(t, b, 0)
		}
	}
}

func TestP303Nil(t *testing.T) {
	var b *seal.Book
	for _, node := range []uint64{0, 1, 1<<64 - 1} {
		got, kind := b.Tag(node, []byte("a"))
		if got != nil || kind != api.Nil {
			t.Errorf("Tag of nil: %x, %v", got, kind)
		}
		for _, real := range kinds {
			holds(t, b, node, []byte("a"), wantTag(real, nil, node, []byte("a")), false, false)
		}
		holds(t, b, node, nil, nil, false, false)
	}
	many(t, b, 0)
}

// A book that New did not make knows nobody.
func TestP303Zero(t *testing.T) {
	b := &seal.Book{}
	got, kind := b.Tag(1, []byte("a"))
	if got != nil || kind != api.Unknown {
		t.Errorf("Tag: %x, %v", got, kind)
	}
	for _, real := range kinds {
		holds(t, b, 1, []byte("a"), wantTag(real, nil, 1, []byte("a")), false, false)
	}
	many(t, b, 0)
}
