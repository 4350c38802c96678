package policy

import (
	"slices"

	"identity/api"
	"identity/clock"
	"identity/codec"
	"identity/fold"
	"identity/scope"
)

// The fields that conditions can compare.
const (
	ageField     = "age"
	clientField  = "client"
	groupField   = "group"
	hourField    = "hour"
	levelField   = "level"
	riskField    = "risk"
	scopeField   = "scope"
	tenantField  = "tenant"
	trustedField = "trusted"
	userField    = "user"
)

// The operators by which they are compared.
const (
	isOp    = "is"
	notOp   = "not"
	hasOp   = "has"
	lacksOp = "lacks"
	minOp   = "min"
	maxOp   = "max"
)

// The values with which the field trusted is compared.
const (
	yes = "yes"
	no  = "no"
)

const (
	secondsPerHour = 3600
	hoursPerDay    = 24
)

// Fields returns the names of the fields that conditions can compare.
func Fields() []string {
	return []string{
		ageField, clientField, groupField, hourField, levelField,
		riskField, scopeField, tenantField, trustedField, userField,
	}
}

// possible reports whether the field, the operator and the value of a
// condition belong together.
func possible(c api.Condition) bool {
	switch c.Field {
	case userField, clientField, tenantField:
		return (c.Op == isOp || c.Op == notOp) && fold.Word(c.Value)
	case groupField:
		return (c.Op == hasOp || c.Op == lacksOp) && fold.Clean(c.Value)
	case scopeField:
		return (c.Op == hasOp || c.Op == lacksOp) && scope.Check([]string{c.Value}) == api.OK
	case trustedField:
		return c.Op == isOp && (c.Value == yes || c.Value == no)
	case riskField, levelField, hourField, ageField:
		_, e := codec.ReadInt(c.Value)
		return (c.Op == minOp || c.Op == maxOp) && e == api.OK
	}
	return false
}

// Holds reports whether a condition holds for a request.
func Holds(c api.Condition, r api.Request) bool {
	if !possible(c) {
		return false
	}
	switch c.Op {
	case isOp:
		return text(c.Field, r) == c.Value
	case notOp:
		return text(c.Field, r) != c.Value
	case hasOp:
		return slices.Contains(list(c.Field, r), c.Value)
	case lacksOp:
		return !slices.Contains(list(c.Field, r), c.Value)
	}
	return bounded(c, r)
}

// text returns the field of a request that is compared as a whole.
func text(field string, r api.Request) string {
	switch field {
	case userField:
		return r.User
	case clientField:
		return r.Client
	case tenantField:
		return r.Tenant
	}
	if r.Trusted {
		return yes
	}
	return no
}

// list returns the field of a request that is a list.
func list(field string, r api.Request) []string {
	if field == groupField {
		return r.Groups
	}
	return r.Scopes
}

// bounded reports whether a possible condition with a bound holds for a request.
func bounded(c api.Condition, r api.Request) bool {
	bound, _ := codec.ReadInt(c.Value)
	n := number(c.Field, r)
	if c.Op == minOp {
		return n >= bound
	}
	return n <= bound
}

// number returns the number of a request that is compared with a bound.
func number(field string, r api.Request) int {
	switch field {
	case riskField:
		return r.Risk
	case levelField:
		return r.Level
	case hourField:
		// Nothing is added: Add limits the instant.
		return clock.Add(r.Now, 0) / secondsPerHour % hoursPerDay
	}
	return clock.Sub(r.Now, r.AuthTime)
}

// First returns the index of the first condition of a rule that does not hold, or -1.
func First(p api.PolicyRule, r api.Request) int {
	fails := func(c api.Condition) bool { return !Holds(c, r) }
	return slices.IndexFunc(p.Conditions, fails)
}
