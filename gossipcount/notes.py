"""Notes: pages as texts."""

from gossipcount.errors import NoNote
from gossipcount.pages import is_page

NOBODY = "nobody"
MOST_FIGURES = 60


def written(page):
    """Write a page as a text."""
    if not page:
        return NOBODY
    return ", ".join([_entry(name, page[name]) for name in sorted(page)])


def _entry(name, share):
    return f"{name} +{share[0]} -{share[1]}"


def read(text):
    """Read the page that is written as this text."""
    if text == NOBODY:
        return {}
    page = {}
    for entry in text.split(", "):
        name, share = _read_entry(entry)
        page[name] = share
    # Writing it again finds what the steps let through: names not rising or twice, noughts ahead.
    if not is_page(page) or written(page) != text:
        raise NoNote("no page is written as this text")
    return page


def _read_entry(entry):
    parts = entry.split(" ")
    if len(parts) != 3:
        raise NoNote("a name is followed by two numbers, with a blank ahead of each")
    return (parts[0], (_read_number("+", parts[1]), _read_number("-", parts[2])))


def _read_number(sign, part):
    figures = part[1:]
    # The length is looked at ahead of the value, as Python does not read numbers of any length.
    if part[:1] != sign or not 1 <= len(figures) <= MOST_FIGURES:
        raise NoNote("a number stands behind its sign and is below 10 ** 60")
    if not all(["0" <= figure <= "9" for figure in figures]):
        raise NoNote("a number is written by figures")
    return int(figures)
