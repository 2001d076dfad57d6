package proof

import (
	"bulwark/api"
	"bulwark/wire"
)

const (
	maxKeys = 4096
	maxDeep = 64 // of a part that stands within so many others
)

// Bytes goes on behind a part that can't be: what is too large, anywhere, is told ahead of it.
func Bytes(p Part) ([]byte, api.Kind) {
	var form []byte
	wrong := judge(p)
	if wrong == api.TooLarge {
		goto refused
	}
	form = formOf(p)
	if len(form) > api.MaxBytes {
		wrong = api.TooLarge
	}
	if wrong == api.OK {
		return form, api.OK
	}
refused:
	return nil, wrong
}

// judge looks at each list of kids once in every depth, since a caller's may stand in very many places, even beneath itself.
func judge(p Part) api.Kind {
	type place struct {
		kids kidList
		deep int
	}
	wrong := api.OK
	seen := map[place]struct{}{}
	var look func(p Part, deep int)
	look = func(p Part, deep int) {
		if !sound(p) {
			wrong = api.BadArg
		}
		if len(p.Kids) == 0 {
			return
		}
		here := place{kidList{&p.Kids[0], len(p.Kids)}, deep}
		if _, has := seen[here]; has {
			return
		}
		seen[here] = struct{}{}
		if deep == maxDeep {
			wrong = api.TooLarge
		}
		for _, kid := range p.Kids {
			if wrong == api.TooLarge {
				return
			}
			look(kid, deep+1)
		}
	}
	look(p, 0)
	return wrong
}

// sound: has it just what its bytes have a place for?
func sound(p Part) bool {
	if p.Pruned {
		return p.Level == 0 && len(p.Keys) == 0 && len(p.Known) == 0 && len(p.Vals) == 0 && len(p.Kids) == 0
	}
	if p.Level < 0 || len(p.Sum) > 0 {
		return false
	}
	return counted(p) || none(p) && len(p.Known) == 0 && len(p.Vals) == 0
}

// formOf: the whole form, or, of one that is too large, more of it than may be.
func formOf(p Part) []byte {
	var form []byte
	// each call of wire copies what it is given, so the pieces are put behind one another here
	add := func(piece []byte) {
		form = append(form, piece...)
	}
	var put func(p Part)
	put = func(p Part) {
		add(wire.Bool(nil, p.Pruned))
		if p.Pruned {
			add(wire.Bytes(nil, p.Sum))
			return
		}
		add(wire.Uint(nil, uint64(p.Level)))
		add(wire.Uint(nil, uint64(len(p.Keys))))
		for i, key := range p.Keys {
			add(wire.Bytes(nil, key))
			add(wire.Bool(nil, at(p.Known, i)))
			add(wire.Bytes(nil, at(p.Vals, i)))
		}
		if len(p.Keys) == 0 {
			return
		}
		for _, kid := range p.Kids {
			if len(form) > api.MaxBytes {
				return
			}
			put(kid)
		}
	}
	put(p)
	return form
}

// Read goes on behind a fault, since the reader keeps what was wrong first: all that is left is zero then.
func Read(b []byte) (Part, api.Kind) {
	r := wire.Read(b)
	var take func(deep int) Part
	take = func(deep int) Part {
		if deep > maxDeep {
			r.Fail(api.BadForm)
			return Part{}
		}
		p := Part{Pruned: r.Bool()}
		if p.Pruned {
			p.Sum = r.Bytes(sumSize)
			return p
		}
		p.Level = r.Int(maxLevel)
		count := r.Int(maxKeys)
		for range count {
			p.Keys = append(p.Keys, r.Bytes(maxKey))
			p.Known = append(p.Known, r.Bool())
			p.Vals = append(p.Vals, r.Bytes(maxValue))
		}
		if count == 0 {
			return p
		}
		for range count + 1 {
			p.Kids = append(p.Kids, take(deep+1))
		}
		return p
	}
	p := take(0)
	if wrong := r.Done(); wrong != api.OK {
		return Part{}, wrong
	}
	return p, api.OK
}
