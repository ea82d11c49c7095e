package setcookie

import (
	"strings"

	"footman/api"
	"footman/ascii"
	"footman/dates"
)

const (
	expiresName = "Expires"
	ageName     = "Max-Age"
	domainName  = "Domain"
	pathName    = "Path"
	secureName  = "Secure"
	hiddenName  = "HttpOnly"
	siteName    = "SameSite"

	domainPoint = "."
	pathBegin   = "/"

	minus   = "-"
	nought  = "0"
	digits  = "0123456789"
	mostAge = 1<<31 - 1
)

// cookie is what has been heard of one so far.
type cookie api.Told

func (c *cookie) expires(value string) {
	if seconds, ok := dates.Cookie(value); ok {
		c.Expires, c.HasExpire = seconds, true
	}
}

func (c *cookie) age(value string) {
	if age, ok := ageOf(value); ok {
		c.Age, c.HasAge = age, true
	}
}

func (c *cookie) domain(value string) {
	c.Domain = ascii.Lower(strings.TrimPrefix(value, domainPoint))
}

func (c *cookie) path(value string) {
	c.Path = ""
	if strings.HasPrefix(value, pathBegin) {
		c.Path = value
	}
}

func (c *cookie) secure(string) { c.Secure = true }

func (c *cookie) hidden(string) { c.Hidden = true }

func (c *cookie) site(value string) {
	c.Site = api.SiteUnset
	for site := api.SiteStrict; site <= api.SiteNone; site++ {
		if ascii.Same(value, siteText(site)) {
			c.Site = site
		}
	}
}

// attributes are by their names in small letters.
func attributes() map[string]func(*cookie, string) {
	return map[string]func(*cookie, string){
		ascii.Lower(expiresName): (*cookie).expires,
		ascii.Lower(ageName):     (*cookie).age,
		ascii.Lower(domainName):  (*cookie).domain,
		ascii.Lower(pathName):    (*cookie).path,
		ascii.Lower(secureName):  (*cookie).secure,
		ascii.Lower(hiddenName):  (*cookie).hidden,
		ascii.Lower(siteName):    (*cookie).site,
	}
}

// hear takes the parts in order, so that of several that say something of one the last one counts.
func (c *cookie) hear(parts []string) {
	known := attributes()
	for _, part := range parts {
		name, value, _ := pairOf(part)
		if say, ok := known[ascii.Lower(name)]; ok && len(value) <= api.MaxAttr {
			say(c, value)
		}
	}
}

// ageOf: there may be any number of digits, noughts ahead too.
func ageOf(value string) (int, bool) {
	told, below := strings.CutPrefix(value, minus)
	if told == "" || strings.Trim(told, digits) != "" {
		return 0, false
	}
	age, ok := ascii.Number(nought+strings.TrimLeft(told, nought), mostAge)
	if !ok {
		age = mostAge
	}
	if below {
		age = -age
	}
	return age, true
}
