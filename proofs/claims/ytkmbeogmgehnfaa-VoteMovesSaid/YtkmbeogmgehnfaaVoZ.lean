/-
  What the program's Intersect, Cluster and Combine answer.
  Conditions: none but that the candidates and the numbers lie in memory.
-/
import Derived.Test.YtkmbeogmgehnfaaVoH
import Derived.Test.YtkmbeogmgehnfaaVpE
import Derived.Test.YtkmbeogmgehnfaaVpG
import Derived.Test.YtkmbeogmgehnfaaVpK
namespace Go.Proofs.Ytkmbeogmgehnfaa.Vo

theorem pc : PC := ⟨fun _ _ _ h hn => Intersect_c h hn, fun _ _ _ _ _ h hs hn hn2 => Cluster_c h hs hn hn2, fun _ _ _ _ _ h hs hn hn2 => Combine_c h hs hn hn2⟩
end Go.Proofs.Ytkmbeogmgehnfaa.Vo
