/- The law's own example: three go into two pages. -/
import Derived.Test.YthcilmlaoddckaaHeapLike
namespace Go.Proofs.Ythcilmlaoddckaa.Pg
open Go.RowKit Go.Proofs.Ythcilmlaoddckaa.Mem Go.Proofs.Ythcilmlaoddckaa.Right
set_option linter.unusedVariables false

theorem putD_first {d : List UInt8} (h : d.length = 200) : putD [] d = (some [[some d]], 0, 0, 0) := by
  unfold putD
  rw [if_neg (by omega)]
  have h1 := putH_at (L := []) (d := d) (k := 0) (by decide) (fun j hj => by omega) (putV_new (by omega))
  rw [h1]; rfl
theorem putV_more {d : List UInt8} (h : d.length = 200) : putV [some d] d = (some [some d, some d], 1, 0) := by
  unfold putV
  have h1 : roomN [some d] = 510 - 2 - (d.length + 0) := rfl
  have h2 : needN [some d] d.length = d.length + 2 := rfl
  rw [if_neg (by omega), h1, h2, if_neg (by omega)]
  rfl
theorem putV_full {d : List UInt8} (h : d.length = 200) : putV [some d, some d] d = (none, 0, 5) := by
  unfold putV
  have h1 : roomN [some d, some d] = 510 - 4 - (d.length + (d.length + 0)) := rfl
  have h2 : needN [some d, some d] d.length = d.length + 2 := rfl
  rw [if_neg (by omega), h1, h2, if_pos (by omega)]
theorem putD_second {d : List UInt8} (h : d.length = 200) : putD [[some d]] d = (some [[some d, some d]], 0, 1, 0) := by
  unfold putD
  rw [if_neg (by omega)]
  have h1 := putH_at (L := [[some d]]) (d := d) (k := 0) (by decide) (fun j hj => by omega) (putV_more h)
  rw [h1]; rfl
theorem putD_third {d : List UInt8} (h : d.length = 200) : putD [[some d, some d]] d = (some [[some d, some d], [some d]], 1, 0, 0) := by
  unfold putD
  rw [if_neg (by omega)]
  have h1 := putH_at (L := [[some d, some d]]) (d := d) (k := 1) (by decide) (fun j hj => by
    obtain rfl : j = 0 := by omega
    show (putV [some d, some d] d).1 = none
    rw [putV_full h]) (putV_new (by omega))
  rw [h1]; rfl
theorem all_three (d : List UInt8) : (allH [[some d, some d], [some d]]).length = 3 := rfl
/-- Bytes that are all zero, made anew. -/
theorem zeros_new (w : World) (n : Nat) (hn : n ≤ 1000) (Z : Array Value) (hZ : Z = (List.replicate n (Value.int .u8 0)).toArray) : Bs (w.alloc (.cells Z 5)) (some ⟨w.heap.size, 0, none⟩) n n (zs n) := by
  subst hZ
  refine ⟨fun k u hu => ⟨w.heap.size, 0, rfl, by simp, ?_⟩, len_zs n, Nat.le_refl _, by omega⟩
  rw [Nat.zero_add, World.cell?_alloc_at _ _ _ _ (by simp)]
  have e : bys (zs n) = List.replicate n (Value.int .u8 0) := by
    unfold bys zs
    rw [List.map_replicate]; rfl
  rw [e] at hu
  rw [List.getElem?_toArray]
  exact hu
set_option maxRecDepth 100000 in
set_option maxHeartbeats 4000000 in
theorem works_h (w : World) : Calls Try.prog 9 #[] w fun e w' => e = .returned (.bool true) ∧ Below w.heap.size w w' := by
  obtain ⟨Z, hZ, hmk⟩ : ∃ Z : Array Value, Z = (List.replicate 200 (Value.int .u8 0)).toArray ∧ ∀ wx : World, (Instr.makeSlice 32 (.int .i64 200) (.int .i64 200)).run Try.prog wx = .ok (.slice (some ⟨wx.heap.size, 0, none⟩) 200 200) (wx.alloc (.cells Z 5)) := ⟨_, rfl, fun wx => by kernel_rfl⟩
  have HZS : Hid (∀ wx : World, Bs (wx.alloc (.cells Z 5)) (some ⟨wx.heap.size, 0, none⟩) 200 200 (zs 200)) := Lib.hid fun wx => zeros_new wx 200 (by decide) Z hZ
  obtain ⟨z, hz⟩ : ∃ z, zs 200 = z := ⟨_, rfl⟩
  rw [hz] at HZS
  have hzl : z.length = 200 := by rw [← hz]; exact len_zs 200
  have P1 := Lib.hid (putD_first hzl)
  have P2 := Lib.hid (putD_second hzl)
  have P3 := Lib.hid (putD_third hzl)
  have HL : Hid (∀ W n₀ B, HP W n₀ B [[some z, some z], [some z]] → Calls Try.prog 11 #[.pointer (some ⟨B, 0, none⟩)] W fun e w' => e = .returned (.int .i64 3) ∧ Below W.heap.size W w') := Lib.hid fun W n₀ B hW => (len_h n₀ B _ W hW).mono fun e w' ⟨a, b⟩ => ⟨by rw [a, all_three]; rfl, b⟩
  clear hZ hz hzl
  go_enter Try.func9, Try.ntmps9
  go_upto_region 2 with (go_at_call 7; (with_reducible refine (new_h w).mono ?_); rintro e w1 ⟨B, rfl, hp1, hb1⟩; have HP1 := Lib.hid hp1; have HB1 := Lib.hid hb1; clear hp1 hb1)
  have HPa := Lib.hid (HP1.out.below (al (Below.refl _ _) (.cells Z 5)))
  go_upto_region 3 with (go_at_call 18; (with_reducible refine (put_h w.heap.size B [] _ 200 200 z _ HPa.out (HZS.out w1) (some [[some z]]) 0 0 0 P1.out).mono ?_); rintro e w2 ⟨rfl, hp2, hf2⟩; have HP2 := Lib.hid hp2; have HF2 := Lib.hid hf2; clear hp2 hf2)
  have hP3 : HP _ w.heap.size B [[some z]] := HP2.out.below (al (Below.refl _ _) (.cells #[.int .i64 0, .int .i64 0] 31))
  have hB2 := HB1.out.trans ((al (Below.refl w1.heap.size w1) (.cells Z 5)).mono HB1.out.size)
  have hB3 := (hB2.trans HF2.out.1).alloc (Nat.le_trans hB2.size HF2.out.1.size) (.cells #[.int .i64 0, .int .i64 0] 31)
  have hC3 := Cel.new w2 31 #[.int .i64 0, .int .i64 0] rfl
  generalize w2.alloc (.cells #[.int .i64 0, .int .i64 0] 31) = W3 at hP3 hB3 hC3 ⊢
  generalize w2.heap.size = T3 at hC3 ⊢
  have HP3 := Lib.hid hP3
  have HB3 := Lib.hid hB3
  have HC3 := Lib.hid hC3
  clear hP3 hB3 hC3 hB2
  have HPb := Lib.hid (HP3.out.below (al (Below.refl _ _) (.cells Z 5)))
  go_upto_region 4 with (go_at_call 18; (with_reducible refine (put_h w.heap.size B [[some z]] _ 200 200 z _ HPb.out (HZS.out W3) (some [[some z, some z]]) 0 1 0 P2.out).mono ?_); rintro e w4 ⟨rfl, hp4, hf4⟩; have HP4 := Lib.hid hp4; have HF4 := Lib.hid hf4; clear hp4 hf4)
  have hP5 : HP _ w.heap.size B [[some z, some z]] := HP4.out.below (al (Below.refl _ _) (.cells #[.int .i64 0, .int .i64 1] 31))
  have hB4 := HB3.out.trans ((al (Below.refl W3.heap.size W3) (.cells Z 5)).mono HB3.out.size)
  have hB5 := (hB4.trans HF4.out.1).alloc (Nat.le_trans hB4.size HF4.out.1.size) (.cells #[.int .i64 0, .int .i64 1] 31)
  have hC5 := Cel.new w4 31 #[.int .i64 0, .int .i64 1] rfl
  have hC35 := (HF4.out.cel (by decide) (HC3.out.alloc (.cells Z 5))).alloc (.cells #[.int .i64 0, .int .i64 1] 31)
  generalize w4.alloc (.cells #[.int .i64 0, .int .i64 1] 31) = W5 at hP5 hB5 hC5 hC35 ⊢
  generalize w4.heap.size = T5 at hC5 ⊢
  have HP5 := Lib.hid hP5
  have HB5 := Lib.hid hB5
  have HC5 := Lib.hid hC5
  have HC35 := Lib.hid hC35
  clear hP5 hB5 hC5 hC35 hB4
  have HPc := Lib.hid (HP5.out.below (al (Below.refl _ _) (.cells Z 5)))
  go_upto_region 5 with (go_at_call 18; (with_reducible refine (put_h w.heap.size B [[some z, some z]] _ 200 200 z _ HPc.out (HZS.out W5) (some [[some z, some z], [some z]]) 1 0 0 P3.out).mono ?_); rintro e w6 ⟨rfl, hp6, hf6⟩; have HP6 := Lib.hid hp6; have HF6 := Lib.hid hf6; clear hp6 hf6)
  have hP7 : HP _ w.heap.size B [[some z, some z], [some z]] := HP6.out.below (al (Below.refl _ _) (.cells #[.int .i64 1, .int .i64 0] 31))
  have hB6 := HB5.out.trans ((al (Below.refl W5.heap.size W5) (.cells Z 5)).mono HB5.out.size)
  have hB7 := (hB6.trans HF6.out.1).alloc (Nat.le_trans hB6.size HF6.out.1.size) (.cells #[.int .i64 1, .int .i64 0] 31)
  have hC7 := Cel.new w6 31 #[.int .i64 1, .int .i64 0] rfl
  have hC57 := (HF6.out.cel (by decide) (HC5.out.alloc (.cells Z 5))).alloc (.cells #[.int .i64 1, .int .i64 0] 31)
  have hC37 := (HF6.out.cel (by decide) (HC35.out.alloc (.cells Z 5))).alloc (.cells #[.int .i64 1, .int .i64 0] 31)
  generalize w6.alloc (.cells #[.int .i64 1, .int .i64 0] 31) = W7 at hP7 hB7 hC7 hC57 hC37 ⊢
  generalize w6.heap.size = T7 at hC7 ⊢
  have HP7 := Lib.hid hP7
  have HB7 := Lib.hid hB7
  have x0 := hC37.at_ 0
  have x1 := hC37.at_ 1
  have y0 := hC57.at_ 0
  have y1 := hC57.at_ 1
  have v0 := hC7.at_ 0
  have v1 := hC7.at_ 1
  clear hP7 hB7 hC7 hC57 hC37 hB6
  go_wp2_with (go_at_call 11; (with_reducible refine (HL.out _ _ _ HP7.out).mono ?_); rintro e w8 ⟨rfl, hb8⟩; have HB8 := Lib.hid (HB7.out.trans (hb8.mono HB7.out.size)); clear hb8)
  go_ret
  exact ⟨rfl, HB8.out⟩
end Go.Proofs.Ythcilmlaoddckaa.Pg
