package header

import (
	"spindle/api"
	"spindle/bits"
	"spindle/golomb"
	"spindle/marks"
)

// code is how a number is read and written, and from where to where it is valid.
type code struct {
	read        func(r *bits.Reader) (int, api.Errno)
	put         func(w *bits.Writer, v int) api.Errno
	least, most int
}

// commands is how a list of commands is checked, read and written.
type commands struct {
	check func(l ...api.Mod) api.Errno
	read  func(r *bits.Reader) ([]api.Mod, api.Errno)
	put   func(w *bits.Writer, l ...api.Mod) api.Errno
}

// input is where fields are read from.
type input struct {
	r *bits.Reader
}

// output is where fields are written to.
type output struct {
	w *bits.Writer
}

// u is the code of numbers of n bits.
func u(n int) code {
	read := func(r *bits.Reader) (int, api.Errno) {
		v, e := r.U(n)
		return int(v), e
	}
	put := func(w *bits.Writer, v int) api.Errno {
		return w.Put(n, uint64(v))
	}
	return code{read, put, 0, 1<<n - 1}
}

// ue is the unsigned code of numbers that count from the least one.
func ue(least, most int) code {
	read := func(r *bits.Reader) (int, api.Errno) {
		v, e := golomb.Ue(r)
		return least + int(v), e
	}
	put := func(w *bits.Writer, v int) api.Errno {
		return golomb.PutUe(w, uint64(v-least))
	}
	return code{read, put, least, most}
}

// se is the signed code.
func se(least, most int) code {
	read := func(r *bits.Reader) (int, api.Errno) {
		v, e := golomb.Se(r)
		return int(v), e
	}
	put := func(w *bits.Writer, v int) api.Errno {
		return golomb.PutSe(w, int64(v))
	}
	return code{read, put, least, most}
}

func modifications() commands {
	return commands{marks.CheckMods, marks.Mods, marks.PutMods}
}

func markings() commands {
	return commands{marks.CheckMarks, marks.Marks, marks.PutMarks}
}

func checkNumber(v *int, c code) api.Errno {
	if *v < c.least || *v > c.most {
		return api.ErrRange
	}
	return api.OK
}

func checkList(l *[]api.Mod, c commands) api.Errno {
	return c.check(*l...)
}

func (in input) number(v *int, c code) (e api.Errno) {
	if *v, e = c.read(in.r); e != api.OK {
		return e
	}
	return checkNumber(v, c)
}

func (in input) list(l *[]api.Mod, c commands) (e api.Errno) {
	*l, e = c.read(in.r)
	return e
}

func (out output) number(v *int, c code) api.Errno {
	return c.put(out.w, *v)
}

func (out output) list(l *[]api.Mod, c commands) api.Errno {
	return c.put(out.w, *l...)
}
