/- The operations of a region, beside the laws of the words. -/
import Derived.Test.YtpcnhknkgiingaaC0
import Derived.Test.YtpcnhknkgiingaaA26
