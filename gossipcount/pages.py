"""Pages: what somebody has heard of whom, as a dict from names to shares."""

from gossipcount.names import is_name
from gossipcount.shares import NOTHING, greater, is_share, net, reaches

MOST_NAMES = 200


def is_page(thing):
    """Tell whether a thing of any kind is a page."""
    if not isinstance(thing, dict) or len(thing) > MOST_NAMES:
        return False
    return all([_is_entry(name, share) for name, share in thing.items()])


def _is_entry(name, share):
    return is_name(name) and is_share(share) and share != NOTHING


def share_of(page, name):
    """Tell the share of a name, also of one that the page does not have."""
    return page.get(name, NOTHING)


def joined(one, other):
    """Tell the page that two pages are joined to, with its names rising."""
    names = sorted(set(one) | set(other))
    return {name: greater(share_of(one, name), share_of(other, name)) for name in names}


def knows(one, other):
    """Tell whether every share of the first page reaches the other's."""
    # A name of the first page alone needs no look: all shares reach (0, 0).
    return all([reaches(share_of(one, name), other[name]) for name in other])


def lacking(one, other):
    """Tell the page of what the first page lacks of the second one."""
    return {name: other[name] for name in sorted(other) if not reaches(share_of(one, name), other[name])}


def total(page):
    """Tell the sum of the nets of all shares."""
    return sum([net(page[name]) for name in page])
