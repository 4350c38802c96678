package schema

import (
	"identity/api"
	"identity/attrs"
	"identity/fold"
)

// Valid returns the first error of an entry under a schema.
func Valid(s api.Schema, e api.Entry) api.Errno {
	if bad := attrs.Check(e.Attrs); bad != api.OK {
		return bad
	}
	t := accepted(s)
	for _, a := range e.Attrs {
		if bad := t.checkAttr(a); bad != api.OK {
			return bad
		}
	}
	if !t.fits(e.Attrs) {
		return api.ErrSchema
	}
	return api.OK
}

// checkAttr returns the first error of an attribute by itself.
func (t table) checkAttr(a api.Attr) api.Errno {
	typ, ok := t.typeOf(a.Name)
	if !ok {
		return api.ErrNone
	}
	for _, v := range a.Values {
		if _, e := normal(typ.Syntax, v); e != api.OK {
			return e
		}
	}
	if typ.Single && len(a.Values) > 1 {
		return api.ErrSchema
	}
	return api.OK
}

// fits reports whether the attributes are those that their classes require and allow.
func (t table) fits(l []api.Attr) bool {
	present := map[string]bool{}
	for _, n := range attrs.Names(l) {
		present[n] = true
	}
	allowed := map[string]bool{classAttr: true}
	for _, v := range attrs.Get(l, classAttr) {
		class := fold.Fold(v)
		if _, ok := t.class(class); !ok || !contains(present, t.must(class)) {
			return false
		}
		for _, n := range t.may(class) {
			allowed[n] = true
		}
	}
	return present[classAttr] && contains(allowed, attrs.Names(l))
}

// contains reports whether all names are in a set.
func contains(set map[string]bool, names []string) bool {
	for _, n := range names {
		if !set[n] {
			return false
		}
	}
	return true
}
