"""Hands: each keeps the count by itself and hears what others have heard of."""

from gossipcount.errors import Forged, NoAmount, NoName, NoPage
from gossipcount.names import is_amount, is_name
from gossipcount.pages import is_page, joined, lacking, share_of, total
from gossipcount.shares import reaches


class Hand:
    """One of the many that keep the count."""

    def __init__(self, name):
        if not is_name(name):
            raise NoName("a hand needs a name of 1 to 8 small letters")
        self.name = name
        self._page = {}

    def up(self, many):
        """Raise the count by an amount and tell the total."""
        _check_amount(many)
        return self._add(many, 0)

    def down(self, many):
        """Lower the count by an amount and tell the total."""
        _check_amount(many)
        return self._add(0, many)

    def _add(self, raised, lowered):
        share = share_of(self._page, self.name)
        # Both numbers only grow, and by joining the names of the page go on rising.
        self._page = joined(self._page, {self.name: (share[0] + raised, share[1] + lowered)})
        return self.told()

    def page(self):
        """Tell what this hand has heard of whom."""
        return dict(self._page)

    def told(self):
        """Tell the total of the hand's page."""
        return total(self._page)

    def letter(self, page):
        """Tell what somebody with this page lacks of the hand's own page."""
        _check_page(page)
        return lacking(page, self._page)

    def trusts(self, page):
        """Tell whether the page knows no more of this hand's deeds than the hand does."""
        return reaches(share_of(self._page, self.name), share_of(page, self.name))

    def hear(self, page):
        """Join a page to the hand's own one and tell how many shares have changed."""
        _check_page(page)
        if not self.trusts(page):
            raise Forged("the page tells of deeds that this hand has not done")
        return self.learn(page)

    def learn(self, page):
        """Do what hear does, with a page that the caller has found good."""
        news = lacking(self._page, page)
        self._page = joined(self._page, news)
        return len(news)


def _check_amount(thing):
    if not is_amount(thing):
        raise NoAmount("an amount is a whole number from 1 to 1000000000")


def _check_page(thing):
    if not is_page(thing):
        raise NoPage("a page is a dict from at most 200 names to shares, none of them (0, 0)")
