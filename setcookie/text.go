package setcookie

import (
	"strconv"
	"strings"

	"footman/api"
	"footman/dates"
)

const (
	partBegin = "; "

	strictSite = "Strict"
	laxSite    = "Lax"
	noneSite   = "None"
)

// textOf takes any cookie: whether it may be told so shows when its text is read back.
func textOf(t api.Told) string {
	parts := []string{t.Name + nameEnd + t.Value}
	tell := func(has bool, part string) {
		if has {
			parts = append(parts, part)
		}
	}
	date, _ := dates.Text(t.Expires)
	tell(t.HasExpire, expiresName+nameEnd+date)
	tell(t.HasAge, ageName+nameEnd+strconv.Itoa(t.Age))
	tell(t.Domain != "", domainName+nameEnd+t.Domain)
	tell(t.Path != "", pathName+nameEnd+t.Path)
	tell(t.Secure, secureName)
	tell(t.Hidden, hiddenName)
	tell(t.Site != api.SiteUnset, siteName+nameEnd+siteText(t.Site))
	return strings.Join(parts, partBegin)
}

func siteText(site api.Site) string {
	switch site {
	case api.SiteStrict:
		return strictSite
	case api.SiteLax:
		return laxSite
	case api.SiteNone:
		return noneSite
	}
	return ""
}
