/-
  MeetSays' walk: of whatever heads and seals it answers true.
-/
import Derived.Test.YtmemahlibndoiafFmtTogether
import Derived.Test.YtmemahlibndoiafFmtRefMeets
import Derived.Lib.QuietBelow
namespace Go.Proofs.YtmemahlibndoiafFmt
open Go Go.RowKit Go.Maps Go.Kit Go.Extern.Stop Go.Stop Go.Extern

set_option maxHeartbeats 2000000 in
set_option maxRecDepth 100000 in
theorem meetSays_walk (I : Interp) (an : Int) (aa ab : ByteArray) (bn : Int) (ba bb : ByteArray) (ls : List ByteArray) (a3 : Option Addr) (n3 c3 : Nat) (w : World) (hE : Tab w) (hF : I.told.answers w.tape) (hn3 : ls.length = n3) (hS3 : StrsAt w a3 c3 ls) (hz3 : ∀ s ∈ ls, s.size ≤ 140737488355328) :
    Calls Tryf.prog 3 #[.agg #[.int .i64 an, .string aa, .string ab], .agg #[.int .i64 bn, .string ba, .string bb], .slice a3 n3 c3] w fun e w' => e = .returned (.bool true) ∧ Below w.heap.size w w' := by
  have h1 := fun w hE hS => same_any an aa ab bn ba bb ls a3 n3 c3 w hn3 hE hS
  have h2 := fun w hF hS => meets_any I an aa ab bn ba bb ls a3 n3 c3 w hF hn3 hS hz3
  generalize meetE an aa ab bn ba bb ls = z at h1 h2
  have hcap := hS3.cap
  have hmax := hS3.max
  obtain ⟨q3, q4, hb0⟩ := boxes2 w (.cells #[.int .i64 an, .string aa, .string ab] 23) (.cells #[.int .i64 bn, .string ba, .string bb] 23)
  go_enter Tryf.func3, Tryf.ntmps3
  go_upto_region 1 with fail
  generalize ((w.alloc (.cells #[.int .i64 an, .string aa, .string ab] 23)).alloc (.cells #[.int .i64 bn, .string ba, .string bb] 23)) = w0 at q3 q4 hb0 ⊢
  have k0 := fun d os => cell_regrown (heap_cell q3 0 _ rfl) d os
  have k1 := fun d os => cell_regrown (heap_cell q3 1 _ rfl) d os
  have k2 := fun d os => cell_regrown (heap_cell q3 2 _ rfl) d os
  have k3 := fun d os => cell_regrown (heap_cell q4 0 _ rfl) d os
  have k4 := fun d os => cell_regrown (heap_cell q4 1 _ rfl) d os
  have k5 := fun d os => cell_regrown (heap_cell q4 2 _ rfl) d os
  have cT := Lib.hid (fun d os => Calls.regrown_of (together_any (Sort.grow (redrawn w0 d) os) (hE.on (below_on hb0 (below_regrown w0 d os)))))
  have cS := Lib.hid (fun d os => Calls.regrown_of (h1 (Sort.grow (redrawn w0 d) os) (hE.on (below_on hb0 (below_regrown w0 d os))) (hS3.on (below_on hb0 (below_regrown w0 d os)))))
  have cR := Lib.hid (fun d os => Calls.regrown_of (h2 (Sort.grow (redrawn w0 d) os) (by rw [(below_on hb0 (below_regrown w0 d os)).tape]; exact hF) (hS3.on (below_on hb0 (below_regrown w0 d os)))))
  clear h1 h2
  refine wp_region_quiet_below (by kernel_rfl) (by kernel_rfl) ?_
  repeat (first | go_big_quiet_step (first | with_reducible exact cT.out _ _ | with_reducible exact cS.out _ _ | with_reducible exact cR.out _ _) | quiet_step (first | with_reducible exact cT.out _ _ | with_reducible exact cS.out _ _ | with_reducible exact cR.out _ _))
  refine wpQuiet_nil ?_
  intro _ hw'
  obtain ⟨⟨dq, osq⟩, hw''⟩ := hw'
  subst hw''
  have hbq := below_on hb0 (below_regrown w0 dq osq)
  clear cT cS cR k0 k1 k2 k3 k4 k5
  go_wp2_with fail
  go_ret
  exact ⟨rfl, hbq⟩
end Go.Proofs.YtmemahlibndoiafFmt
