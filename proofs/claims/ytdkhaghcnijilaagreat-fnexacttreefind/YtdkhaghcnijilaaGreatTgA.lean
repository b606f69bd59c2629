/- slices.Sort at ints, by the shelf. -/
import Derived.Test.YtdkhaghcnijilaaGreatTfW
import Derived.Test.YtdkhaghcnijilaaGreatShelf
namespace Go.Proofs.YtdkhaghcnijilaaGreat

theorem sortsI_all (b : Nat) : SortsI b :=
  sortsI_of (fun blk off cap zs w hH hb hs => AnyM.slices_Sort_int Tryz.sortA blk off cap zs w hH hb hs) (fun p cap w => AnyM.slices_Sort_int_none Tryz.sortA p cap w) b
end Go.Proofs.YtdkhaghcnijilaaGreat
