package why

import (
	"slices"

	"larder/api"
)

// told tells a rule with what its kind says, in memory of its own.
func told(r api.Rule) api.Rule {
	rule := api.Rule{Kind: r.Kind, Lits: slices.Clone(r.Lits)}
	switch r.Kind {
	case api.RuleInstall:
		rule.Index = r.Index
	case api.RuleUpgrade, api.RuleRemove, api.RuleHold, api.RuleDepends, api.RulePre:
		rule.Who, rule.Index = r.Who, r.Index
	case api.RuleName:
		rule.Who, rule.Other = r.Who, r.Other
	case api.RuleConflict, api.RulePath:
		rule.Who, rule.Index, rule.Other = r.Who, r.Index, r.Other
	}
	return rule
}
