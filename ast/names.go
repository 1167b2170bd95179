package ast

import "oriel/api"

// mayHave says whether a part of this kind may have n names.
func mayHave(kind, n int) bool {
	switch kind {
	case api.NdFbind, api.NdBind, api.NdAs, api.NdValSpec, api.NdType, api.NdDbind, api.NdTySpec, api.NdCon,
		api.NdStr, api.NdStrSpec, api.NdSig, api.NdSigUse, api.NdApply:
		return n == 1
	case api.NdFunctor:
		return n == 2
	case api.NdOpen, api.NdPath, api.NdVar, api.NdConUse, api.NdTyUse, api.NdWhere, api.NdInfix:
		return n > 0
	}
	return n == 0
}

// spaceOf is which space name i of the n names of a part of this kind is of, and whether it declares.
func spaceOf(kind, i, n int) (int, bool) {
	switch kind {
	case api.NdFbind, api.NdBind, api.NdAs, api.NdValSpec:
		return api.SpValue, true
	case api.NdType, api.NdDbind, api.NdTySpec:
		return api.SpType, true
	case api.NdCon:
		return api.SpCon, true
	case api.NdSig:
		return api.SpSig, true
	case api.NdFunctor:
		if i == 0 {
			return api.SpFun, true
		}
		fallthrough // its parameter is declared as structures are
	case api.NdStr, api.NdStrSpec:
		return api.SpStr, true
	case api.NdInfix:
		return api.SpValue, false
	case api.NdSigUse:
		return api.SpSig, false
	case api.NdApply:
		return api.SpFun, false
	case api.NdVar, api.NdConUse, api.NdTyUse, api.NdWhere:
		if i == n-1 {
			return lastOf(kind), false
		}
		fallthrough // all names of a path but the last one are structures
	case api.NdOpen, api.NdPath:
		return api.SpStr, false
	}
	return 0, false
}

// lastOf is which space the last name of the path of a part of this kind is of, where it is no structure.
func lastOf(kind int) int {
	switch kind {
	case api.NdVar:
		return api.SpValue
	case api.NdConUse:
		return api.SpCon
	}
	return api.SpType
}
