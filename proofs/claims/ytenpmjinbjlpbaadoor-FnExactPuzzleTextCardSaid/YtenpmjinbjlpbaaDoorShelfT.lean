/- The library's contracts on numbers as texts: those of ShelfP. -/
import Derived.Test.YtenpmjinbjlpbaaDoorShelfP
