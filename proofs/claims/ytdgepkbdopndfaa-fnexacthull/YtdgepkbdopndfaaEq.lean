/- The laws' helpers on slices of limbs: two that read the same are told to be equal; marking a slice and asking for the marks. -/
import Derived.Test.YtdgepkbdopndfaaProg
import Derived.Test.YtdgepkbdopndfaaBase
import Derived.WalkKit
import Derived.WalkSpells
import Derived.WalkLawsBesides
import Derived.BigQuiet
import Derived.Deep.QuietTactic
namespace Go.Proofs.Ytdgepkbdopndfaa
open Go.RowKit

end Go.Proofs.Ytdgepkbdopndfaa
