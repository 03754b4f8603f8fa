/- The program's boot: what each call answers. -/
import Derived.Test.YtlbilpjlfelgdaaEV
