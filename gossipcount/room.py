"""Rooms: hands of different names that meet."""

from gossipcount.errors import Forged, NoName
from gossipcount.hands import Hand
from gossipcount.names import is_name


class Room:
    """A hand for each of some names."""

    def __init__(self, names):
        self._hands = {}
        for name in names:
            # The hand comes first: it refuses what is no name, which might be no key either.
            newcomer = Hand(name)
            if name in self._hands:
                raise NoName("a name stands twice in the list")
            self._hands[name] = newcomer

    def hand(self, name):
        """Tell the hand of a name."""
        if not is_name(name) or name not in self._hands:
            raise NoName("no hand of the room has this name")
        return self._hands[name]

    def meet(self, one, other):
        """Let two hands hear each other and tell how many shares have changed for each."""
        first, second = self.hand(one), self.hand(other)
        first_page, second_page = first.page(), second.page()
        if not first.trusts(second_page) or not second.trusts(first_page):
            raise Forged("one of both is told of deeds that it has not done")
        # Not by hear: a hand's own page may have outgrown a page's limit, which is no reason to refuse.
        return (first.learn(second_page), second.learn(first_page))

    def settled(self):
        """Tell whether all hands have the same page."""
        pages = [hand.page() for hand in self._hands.values()]
        return all([page == pages[0] for page in pages])
