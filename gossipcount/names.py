"""What is a name, what is a whole number, and what is an amount."""

LONGEST_NAME = 8
GREATEST_AMOUNT = 1000000000


def is_name(thing):
    """Tell whether a thing of any kind is a name."""
    if not isinstance(thing, str) or not 1 <= len(thing) <= LONGEST_NAME:
        return False
    return all(["a" <= sign <= "z" for sign in thing])


def is_whole(thing):
    """Tell whether a thing of any kind is a whole number."""
    # For Python True and False are integers, for the document they are none.
    return isinstance(thing, int) and not isinstance(thing, bool)


def is_amount(thing):
    """Tell whether a thing of any kind is an amount."""
    return is_whole(thing) and 1 <= thing <= GREATEST_AMOUNT
