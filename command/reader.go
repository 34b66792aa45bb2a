package command

import (
	"gantry/api"
	"gantry/num"
)

// A reader reads a list that may be.
type reader struct {
	rest []api.Sexp  // what stands behind its head
	c    api.Command // what has been read
}

// forms are what reads a list as each of the kinds, by its head.
func (r *reader) forms() map[string]func() (api.Command, api.Errno) {
	return map[string]func() (api.Command, api.Errno){
		heads[api.CmLogic]:  r.logic,
		heads[api.CmOption]: r.option,
		heads[api.CmSort]:   r.sort,
		heads[api.CmFun]:    r.fun,
		heads[api.CmDefine]: r.define,
		heads[api.CmAssert]: r.assert,
		heads[api.CmPush]:   r.push,
		heads[api.CmPop]:    r.pop,
		heads[api.CmCheck]:  r.check,
		heads[api.CmModel]:  r.model,
		heads[api.CmValue]:  r.value,
		heads[api.CmProof]:  r.proof,
		heads[api.CmExit]:   r.exit,
	}
}

func (r *reader) logic() (api.Command, api.Errno) {
	return r.take(api.CmLogic, into(&r.c.Name, name))
}

func (r *reader) option() (api.Command, api.Errno) {
	return r.take(api.CmOption, into(&r.c.Name, keyword), r.setting)
}

func (r *reader) sort() (api.Command, api.Errno) {
	return r.take(api.CmSort, into(&r.c.Name, name), isZero)
}

func (r *reader) fun() (api.Command, api.Errno) {
	return r.take(api.CmFun, into(&r.c.Name, name), into(&r.c.Args, args), into(&r.c.Res, name))
}

func (r *reader) define() (api.Command, api.Errno) {
	return r.take(api.CmDefine, into(&r.c.Name, name), into(&r.c.Params, params), into(&r.c.Res, name), into(&r.c.Terms, oneTerm))
}

func (r *reader) assert() (api.Command, api.Errno) {
	return r.take(api.CmAssert, into(&r.c.Terms, oneTerm))
}

func (r *reader) push() (api.Command, api.Errno) {
	return r.take(api.CmPush, into(&r.c.N, marks))
}

func (r *reader) pop() (api.Command, api.Errno) {
	return r.take(api.CmPop, into(&r.c.N, marks))
}

func (r *reader) check() (api.Command, api.Errno) {
	return r.take(api.CmCheck)
}

func (r *reader) model() (api.Command, api.Errno) {
	return r.take(api.CmModel)
}

func (r *reader) value() (api.Command, api.Errno) {
	return r.take(api.CmValue, into(&r.c.Terms, terms))
}

func (r *reader) proof() (api.Command, api.Errno) {
	return r.take(api.CmProof)
}

func (r *reader) exit() (api.Command, api.Errno) {
	return r.take(api.CmExit)
}

// A part reads an expression of a list; false, if it is none such.
type part func(x api.Sexp) bool

// take is the command of that kind, if those parts, one behind the other, read
// the rest.
func (r *reader) take(kind int8, parts ...part) (api.Command, api.Errno) {
	r.c.Kind = kind
fits:
	for i := 0; ; i++ {
		switch {
		case i == len(parts) && i == len(r.rest):
			return r.c, api.OK
		case i == len(parts) || i == len(r.rest) || !parts[i](r.rest[i]):
			break fits
		}
	}
	return api.Command{}, api.ErrForm
}

// setting is the part behind an option's name, which has been read.
func (r *reader) setting(x api.Sexp) bool {
	switch r.c.Name {
	case budget:
		return into(&r.c.N, conflicts)(x)
	case seeds:
		return into(&r.c.L, numbers)(x)
	}
	return false
}

// into is the part that keeps in field what read tells of an expression.
func into[T any](field *T, read func(api.Sexp) (T, bool)) part {
	return func(x api.Sexp) (ok bool) {
		*field, ok = read(x)
		return ok
	}
}

// each is what read tells of each that x holds; false, if x is no list of least
// to most, or one is none such.
func each[T any](x api.Sexp, least, most int, read func(api.Sexp) (T, bool)) ([]T, bool) {
	if x.Kind != api.SxList || len(x.L) < least || len(x.L) > most {
		return nil, false
	}
	var l []T
	for _, y := range x.L {
		is, ok := read(y)
		if !ok {
			return nil, false
		}
		l = append(l, is)
	}
	return l, true
}

func name(x api.Sexp) (string, bool) {
	return x.Text, x.Kind == api.SxSym
}

func keyword(x api.Sexp) (string, bool) {
	return x.Text, x.Kind == api.SxKey
}

func args(x api.Sexp) ([]string, bool) {
	return each(x, 0, api.MaxArgs, name)
}

func params(x api.Sexp) ([][2]string, bool) {
	return each(x, 0, api.MaxArgs, param)
}

// param is a name and a sort.
func param(x api.Sexp) ([2]string, bool) {
	l, ok := each(x, 2, 2, name)
	if !ok {
		return [2]string{}, false
	}
	return [2]string(l), true
}

func terms(x api.Sexp) ([]api.Sexp, bool) {
	return each(x, 1, maxValues, term)
}

func term(x api.Sexp) (api.Sexp, bool) {
	return anew(x), true
}

// oneTerm is a row of one.
func oneTerm(x api.Sexp) ([]api.Sexp, bool) {
	return []api.Sexp{anew(x)}, true
}

// number is that of a numeral, up to most.
func number(x api.Sexp, most int) (int, bool) {
	n, e := num.Parse(x.Text)
	return n, x.Kind == api.SxNum && e == api.OK && n <= most
}

func isZero(x api.Sexp) bool {
	_, ok := number(x, 0)
	return ok
}

func marks(x api.Sexp) (int, bool) {
	return number(x, api.MaxPush)
}

func conflicts(x api.Sexp) (int, bool) {
	return number(x, api.MaxBudget)
}

func numbers(x api.Sexp) ([]int, bool) {
	return each(x, 0, maxSeeds, conflicts) // a seed's bound is the budget's
}
