/- The operations of a region, beside the laws of the words. -/
import Derived.Test.YtpcnhknkgiingabC0
import Derived.Test.YtpcnhknkgiingabA26
