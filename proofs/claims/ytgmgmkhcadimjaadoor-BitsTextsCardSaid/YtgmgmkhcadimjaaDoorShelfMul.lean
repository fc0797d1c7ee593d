/- No contract of its own: the first text has them all. -/
import Derived.Test.YtgmgmkhcadimjaaDoorShelf
