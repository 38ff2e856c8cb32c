package header

import "spindle/api"

const (
	mostIdr    = 1<<16 - 1
	mostInit   = 2
	mostQp     = 51
	mostFilter = 2
	mostOffset = 6 // of A and B, above and below 0
	unfiltered = 1 // the Filter that has no A and B
)

// head is a header, with all that decides which fields it has.
type head struct {
	x   api.Header
	ref uint8
	idr bool
	p   api.Pps
	s   api.Sps
	do  action
}

// action is what is done with the fields that the header has: they are checked, read or written.
type action struct {
	number func(v *int, c code) api.Errno
	list   func(l *[]api.Mod, c commands) api.Errno
}

// through goes through the fields after Pps, in their order: which of them the header has depends on those before.
func (h *head) through(do action) (e api.Errno) {
	h.do = do
	all := []func() api.Errno{
		h.frame, h.idrID, h.poc, h.over, h.refs, h.listed, h.mods, h.flags,
		h.adapted, h.marks, h.initial, h.qp, h.filter, h.a, h.b,
	}
fields:
	for _, field := range all {
		if e = field(); e != api.OK {
			break fields
		}
	}
	return e
}

func (h *head) frame() api.Errno {
	return h.number(true, &h.x.Frame, u(h.s.FrameBits))
}

func (h *head) idrID() api.Errno {
	return h.number(h.idr, &h.x.Idr, ue(0, mostIdr))
}

func (h *head) poc() api.Errno {
	return h.number(true, &h.x.Poc, u(h.s.PocBits))
}

func (h *head) over() api.Errno {
	return h.flag(!h.x.Intra, &h.x.Over)
}

func (h *head) refs() api.Errno {
	return h.number(h.x.Over, &h.x.Refs, ue(1, api.MaxRefs))
}

func (h *head) listed() api.Errno {
	return h.flag(!h.x.Intra, &h.x.Listed)
}

func (h *head) mods() api.Errno {
	return h.list(h.x.Listed, &h.x.Mods, modifications())
}

func (h *head) flags() api.Errno {
	for i := range h.x.Flags {
		if e := h.flag(h.idr, &h.x.Flags[i]); e != api.OK {
			return e
		}
	}
	return api.OK
}

func (h *head) adapted() api.Errno {
	return h.flag(!h.idr && h.ref > 0, &h.x.Adapted)
}

func (h *head) marks() api.Errno {
	return h.list(h.x.Adapted, &h.x.Marks, markings())
}

func (h *head) initial() api.Errno {
	return h.number(!h.x.Intra && h.p.Cabac, &h.x.Init, ue(0, mostInit))
}

func (h *head) qp() api.Errno {
	before := baseQp + h.p.Qp
	return h.number(true, &h.x.Qp, se(-before, mostQp-before))
}

func (h *head) filter() api.Errno {
	return h.number(h.p.Deblock, &h.x.Filter, ue(0, mostFilter))
}

func (h *head) a() api.Errno {
	return h.offset(&h.x.A)
}

func (h *head) b() api.Errno {
	return h.offset(&h.x.B)
}

// offset goes through A or B.
func (h *head) offset(v *int) api.Errno {
	return h.number(h.p.Deblock && h.x.Filter != unfiltered, v, se(-mostOffset, mostOffset))
}

// number goes through a field that is a number.
func (h *head) number(has bool, v *int, c code) api.Errno {
	if !has {
		return absent(*v == 0)
	}
	return h.do.number(v, c)
}

// flag goes through a field that is a bit.
func (h *head) flag(has bool, v *bool) api.Errno {
	n := 0
	if *v {
		n = 1
	}
	e := h.number(has, &n, u(1))
	*v = n == 1
	return e
}

// list goes through a field that is a list of commands.
func (h *head) list(has bool, l *[]api.Mod, c commands) api.Errno {
	if !has {
		return absent(len(*l) == 0)
	}
	return h.do.list(l, c)
}

// absent returns an error unless a field that the header does not have is empty.
func absent(empty bool) api.Errno {
	if !empty {
		return api.ErrArg
	}
	return api.OK
}
