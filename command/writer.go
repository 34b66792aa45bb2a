package command

import (
	"gantry/api"
	"gantry/num"
)

// list is the list that is parsed as c, if c may be. Its terms are c's own.
func list(c api.Command) api.Sexp {
	switch c.Kind {
	case api.CmLogic:
		return form(c, symbol(c.Name))
	case api.CmOption:
		return form(c, api.Sexp{Kind: api.SxKey, Text: c.Name}, setting(c))
	case api.CmSort:
		return form(c, symbol(c.Name), numeral(0))
	case api.CmFun:
		return form(c, symbol(c.Name), rowOf(c.Args, symbol), symbol(c.Res))
	case api.CmDefine:
		ahead := []api.Sexp{symbol(c.Name), rowOf(c.Params, pair), symbol(c.Res)}
		return form(c, append(ahead, c.Terms...)...)
	case api.CmAssert:
		return form(c, c.Terms...)
	case api.CmPush, api.CmPop:
		return form(c, numeral(c.N))
	case api.CmCheck, api.CmModel, api.CmProof, api.CmExit:
		return form(c)
	case api.CmValue:
		return form(c, row(c.Terms...))
	}
	return api.Sexp{} // which is parsed as none
}

// form is a list with the head of c's kind, and those parts.
func form(c api.Command, parts ...api.Sexp) api.Sexp {
	return row(append([]api.Sexp{symbol(heads[c.Kind])}, parts...)...)
}

func row(l ...api.Sexp) api.Sexp {
	return api.Sexp{Kind: api.SxList, L: l}
}

// rowOf is a list of what each of l is as an expression.
func rowOf[T any](l []T, as func(T) api.Sexp) api.Sexp {
	var o []api.Sexp
	for _, x := range l {
		o = append(o, as(x))
	}
	return row(o...)
}

func symbol(name string) api.Sexp {
	return api.Sexp{Kind: api.SxSym, Text: name}
}

// numeral is that of n. Of a number below 0, which no command has, it is an
// expression that may not be.
func numeral(n int) api.Sexp {
	s, _ := num.Text(n)
	return api.Sexp{Kind: api.SxNum, Text: s}
}

func pair(p [2]string) api.Sexp {
	return rowOf(p[:], symbol)
}

func setting(c api.Command) api.Sexp {
	if c.Name == seeds {
		return rowOf(c.L, numeral)
	}
	return numeral(c.N)
}
