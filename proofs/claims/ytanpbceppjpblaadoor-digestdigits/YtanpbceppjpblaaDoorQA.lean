/-
  What the laws' awake of layer 2 answers.
-/
import Derived.Test.YtanpbceppjpblaaDoorR2
import Derived.Test.YtanpbceppjpblaaDoorV1
import Derived.Test.YtanpbceppjpblaaDoorQ0
namespace Go.Proofs.YtanpbceppjpblaaDoor
set_option linter.unusedVariables false
open Go.RowKit Plain

def exS : ByteArray := { data := #[101, 51, 98, 48, 99, 52, 52, 50, 57, 56, 102, 99, 49, 99, 49, 52, 57, 97, 102, 98, 102, 52, 99, 56, 57, 57, 54, 102, 98, 57, 50, 52, 50, 55, 97, 101, 52, 49, 101, 52, 54, 52, 57, 98, 57, 51, 52, 99, 97, 52, 57, 53, 57, 57, 49, 98, 55, 56, 53, 50, 98, 56, 53, 53] }
theorem ex_list : exS.toList = [101, 51, 98, 48, 99, 52, 52, 50, 57, 56, 102, 99, 49, 99, 49, 52, 57, 97, 102, 98, 102, 52, 99, 56, 57, 57, 54, 102, 98, 57, 50, 52, 50, 55, 97, 101, 52, 49, 101, 52, 54, 52, 57, 98, 57, 51, 52, 99, 97, 52, 57, 53, 57, 57, 49, 98, 55, 56, 53, 50, 98, 56, 53, 53] := by rw [ByteArray.toList_eq]; rfl
theorem ex_hex : strOfNums (hexL none32 32) = exS := by kernel_rfl
theorem ex_read : rdEnd (nums exS) = .returned (.tuple #[.agg (u8s none32), .int .i64 0]) := by
  rw [rdEnd_yes (by decide +kernel)]
  have e : rdl (nums exS) 32 = none32 := by decide +kernel
  rw [e]
theorem len_none : none32.length = 32 := rfl
theorem byt_none : Byt none32 := by rw [← sha_nil]; exact byt_sha []

set_option maxRecDepth 20000 in
set_option maxHeartbeats 1000000 in
theorem awake_any (w : World) (hT : Tabs w) :
    Calls Tryd.prog 9 #[] w fun e w' => e = .returned (.bool true) ∧ Below w.heap.size w w' := by
  obtain ⟨N, HN⟩ : ∃ N, Box (none32 = N) := ⟨_, ⟨rfl⟩⟩
  have hNl : N.length = 32 := by rw [← HN.out]; rfl
  have HOF : Box (Calls Tryd.prog 10 #[.slice none 0 0] w fun e w' => e = .returned (.agg (u8s N)) ∧ Below w.heap.size w w') := ⟨by
    rw [← HN.out, ← sha_nil]; exact of_any none 0 0 [] w hT (Bytes.none w) (by omega) (by omega) (by omega)⟩
  have HRD : Box (∀ x : World, Calls Tryd.prog 15 #[.string exS] x fun e w' => e = .returned (.tuple #[.agg (u8s N), .int .i64 0]) ∧ Below x.heap.size x w') := ⟨fun x => by
    rw [← HN.out, ← ex_read]; exact read_dig exS x rfl⟩
  have HHX : Box (∀ x : World, Calls Tryd.prog 12 #[.agg (u8s N)] x fun e w' => e = .returned (.string exS) ∧ Below x.heap.size x w') := ⟨fun x => by
    rw [← HN.out, ← ex_hex]; exact hex_any none32 x byt_none len_none⟩
  have HSZ : Hid ((u8s N).size = 32) := by rw [Hid, size_u8s, hNl]
  have heq := eq25 N N hNl hNl
  simp only [decide_true] at heq
  clear hT
  have hE := ex_list
  go_enter Tryd.func9, Tryd.ntmps9
  go_wp2_with (first
    | (go_at_call 10; refine Calls.mono HOF.out ?_; rintro e w1 ⟨rfl, hb1⟩; have HB1 : Hid (Below w.heap.size w w1) := hb1; clear hb1)
    | (refine wpList_lay25 N HSZ.out rfl (.tmp 1) (.tmp 4) rfl w1.heap.size _ rfl rfl (al_at rfl) rfl w.heap.size w (HB1.out.alloc HB1.out.size _) HB1.out.size ?_; intro x1 H1)
    | (go_at_call 15; refine Calls.mono (HRD.out _) ?_; rintro e w2 ⟨rfl, hb2⟩; have H2 : Hid (w2.heap[w1.heap.size]? = some (.cells (u8s N) 25 (0, 0)) ∧ Below w.heap.size w w2 ∧ w1.heap.size < w2.heap.size) := ⟨(hb2.block _ (Array.getElem?_eq_some_iff.1 H1.out.1).1).trans H1.out.1, H1.out.2.1.trans (hb2.mono H1.out.2.1.size), Nat.lt_of_lt_of_le (Array.getElem?_eq_some_iff.1 H1.out.1).1 hb2.size⟩; clear hb2)
    | (refine wpList_lay25 N HSZ.out rfl (.tmp 2) (.tmp 7) rfl w2.heap.size _ rfl rfl (al_at rfl) rfl w.heap.size w (H2.out.2.1.alloc H2.out.2.1.size _) H2.out.2.1.size ?_; intro x2 H3; have H4 : Hid (x2.heap[w1.heap.size]? = some (.cells (u8s N) 25 (0, 0))) := (H3.out.2.2 _ (Nat.ne_of_lt H2.out.2.2)).trans (al_old H2.out.1))
    | (refine wpList_load_row rfl 25 (.tmp 1) rfl w1.heap.size rfl 25 (u8s N) (0, 0) _ H4.out Tryd.underlying25 rfl (by rw [HSZ.out]; kernel_rfl) ?_)
    | (go_at_call 12; refine Calls.mono (HHX.out _) ?_; rintro e w3 ⟨rfl, hb3⟩; have H5 : Hid (w3.heap[w1.heap.size]? = some (.cells (u8s N) 25 (0, 0)) ∧ w3.heap[w2.heap.size]? = some (.cells (u8s N) 25 (0, 0)) ∧ Below w.heap.size w w3) := ⟨(hb3.block _ (Array.getElem?_eq_some_iff.1 H4.out).1).trans H4.out, (hb3.block _ (Array.getElem?_eq_some_iff.1 H3.out.1).1).trans H3.out.1, H3.out.2.1.trans (hb3.mono H3.out.2.1.size)⟩; clear hb3)
    | (refine wpList_get25 N HSZ.out (.tmp 1) rfl w1.heap.size rfl H5.out.1 (by rfl) ?_)
    | (refine wpList_get25 N HSZ.out (.tmp 2) rfl w2.heap.size rfl H5.out.2.1 (by rfl) ?_))
  go_ret
  exact ⟨rfl, H5.out.2.2⟩
end Go.Proofs.YtanpbceppjpblaaDoor
