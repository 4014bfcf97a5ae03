/- The law of a tree's rightness: the walk. -/
import Derived.Test.YtmhojhfajkhbbaaGreatDoorExRefCheck
import Derived.Test.YtmhojhfajkhbbaaGreatDoorExFew
import Derived.Test.YtmhojhfajkhbbaaGreatDoorExHighs
import Derived.Test.YtmhojhfajkhbbaaGreatDoorExTells
import Derived.Test.YtmhojhfajkhbbaaGreatDoorExCame
import Derived.Test.YtmhojhfajkhbbaaGreatDoorMemQuiet
namespace Go.Proofs.YtmhojhfajkhbbaaGreatDoor.Ep
open Go.RowKit Go.Proofs.YtmhojhfajkhbbaaGreatDoor.Mem Go.Proofs.YtmhojhfajkhbbaaGreatDoor.Right Go.Proofs.YtmhojhfajkhbbaaGreatDoor.Lx
set_option linter.unusedVariables false

/-- What the law asks of the listed variables. -/
theorem signs_both {W : World} (h : laidMetH Tryz.prog Rows.exprChecksRow.laid W) : Signs W ∧ Osg W :=
  ⟨signs_of_laid h (by kernel_rfl) (by repeat (first | exact List.Mem.head _ | apply List.Mem.tail)), osg_of_laid h (by kernel_rfl) (by repeat (first | exact List.Mem.head _ | apply List.Mem.tail))⟩
set_option maxRecDepth 20000 in
set_option maxHeartbeats 4000000 in
theorem walk_checks (cs : List Value) (e : Ex) (slots : Bool) (w : World) (h : ExAt w w.heap.size e cs) (hf : Fine e) (hfact : Signs w ∧ Osg w) :
    Calls Tryz.prog 3 #[.agg cs.toArray, .bool slots] w fun x w' => x = .returned (.bool true) ∧ Below w.heap.size w w' := by
  obtain ⟨hs, hO⟩ := hfact
  have hcs := h
  obtain ⟨k, o, vk, vn, vs, nm, kids⟩ := e
  obtain ⟨A, kn, c, rfl, -⟩ := ex_open h
  obtain ⟨e, he⟩ : ∃ e, Ex.mk k o vk vn vs nm kids = e := ⟨_, rfl⟩
  rw [he] at hcs hf
  clear he h
  have HF := Lib.hid (show ∀ W, Below w.heap.size w W → Calls Tryz.prog 4 #[exV k o vk vn (txt vs) (txt nm) A kn c, .int .i64 60] W fun x w' => x = .returned (.bool (cnt e 60).isSome) ∧ Below W.heap.size W w' from fun W hW => few_any e _ 60 W (hcs.on hW) (by omega))
  have HW := Lib.hid (show ∀ W, Below w.heap.size w W → Calls Tryz.prog 5 #[] W fun x w' => x = .returned (.bool true) ∧ Below W.heap.size W w' from fun W hW => works_any W (hs.below hW hs.lt) (hO.below hW hO.lt))
  obtain ⟨W, hW⟩ : ∃ W, w.alloc (.cells #[.int .i64 k, .int .i64 o, .int .i64 vk, .int .i64 vn, .string (txt vs), .string (txt nm), .slice A kn c] 26) = W := ⟨_, rfl⟩
  have hb : Below w.heap.size w W := by rw [← hW]; exact al (Below.refl _ _) _
  have hbx : Cel W w.heap.size 26 #[.int .i64 k, .int .i64 o, .int .i64 vk, .int .i64 vn, .string (txt vs), .string (txt nm), .slice A kn c] := by rw [← hW]; exact Cel.new w _ _ rfl
  have hX : ∀ W', Below W.heap.size W W' → W'.cell? ⟨w.heap.size, 0, none⟩ = some (.int .i64 k) ∧ W'.cell? ⟨w.heap.size, 1, none⟩ = some (.int .i64 o) ∧ W'.cell? ⟨w.heap.size, 2, none⟩ = some (.int .i64 vk) ∧ W'.cell? ⟨w.heap.size, 3, none⟩ = some (.int .i64 vn) ∧ W'.cell? ⟨w.heap.size, 4, none⟩ = some (.string (txt vs)) ∧ W'.cell? ⟨w.heap.size, 5, none⟩ = some (.string (txt nm)) ∧ W'.cell? ⟨w.heap.size, 6, none⟩ = some (.slice A kn c) := fun W' hW' => by
    have := hbx.below hW'
    exact ⟨this.at_ 0, this.at_ 1, this.at_ 2, this.at_ 3, this.at_ 4, this.at_ 5, this.at_ 6⟩
  have HX := Lib.hid hX
  have HB := Lib.hid hb
  obtain ⟨x0, x1, x2, x3, x4, x5, x6⟩ := hX W (Below.refl _ _)
  clear hbx hX
  cases hc : cnt e 60 with
  | none =>
    rw [hc] at HF
    clear hcs hf hs hO hc hb
    go_enter Tryz.func3, Tryz.ntmps3
    go_wp2_with (first
      | (go_at_call 4; (with_reducible refine (HF.out _ HB.out).mono ?_); rintro e' w2 ⟨rfl, hb2⟩; have HB2 := Lib.hid (Mem.on HB.out hb2); clear hb2)
      | (go_at_call 5; (with_reducible refine (HW.out _ HB2.out).mono ?_); rintro e' w3 ⟨rfl, hb3⟩; have HB3 := Lib.hid (Mem.on HB2.out hb3); clear hb3))
    go_ret
    exact ⟨rfl, HB3.out⟩
  | some m =>
    rw [hc] at HF
    have hlim := cnt_lim hc
    have hsz := cnt_size hc
    obtain ⟨ce, hce⟩ : ∃ ce, checkE slots e = ce := ⟨_, rfl⟩
    obtain ⟨g, hg⟩ : ∃ g, hgt e = g := ⟨_, rfl⟩
    have HC := Lib.hid (show ∀ W, Below w.heap.size w W → Calls Tryz.prog 6 #[exV k o vk vn (txt vs) (txt nm) A kn c, .bool slots] W fun x w' => x = .returned (.int .i64 ce) ∧ Below W.heap.size W w' from fun W hW => by rw [← hce]; exact check_any e _ slots W (hcs.on hW) (hs.below hW hs.lt) hlim)
    have HR := Lib.hid (show ∀ W, Below w.heap.size w W → Calls Tryz.prog 7 #[exV k o vk vn (txt vs) (txt nm) A kn c, .bool slots] W fun x w' => x = .returned (.int .i64 ce) ∧ Below W.heap.size W w' from fun W hW => by rw [← hce]; exact refCheck_any e _ slots W (hcs.on hW) hlim (by omega))
    have HG := Lib.hid (show ∀ W, Below w.heap.size w W → Calls Tryz.prog 8 #[exV k o vk vn (txt vs) (txt nm) A kn c] W fun x w' => x = .returned (.int .i64 (g : Int)) ∧ Below W.heap.size W w' from fun W hW => by rw [← hg]; exact height_any e _ W (hcs.on hW) (by omega))
    have HQ := Lib.hid (show ∀ W, Below w.heap.size w W → Calls Tryz.prog 9 #[exV k o vk vn (txt vs) (txt nm) A kn c] W fun x w' => x = .returned (.int .i64 (g : Int)) ∧ Below W.heap.size W w' from fun W hW => by rw [← hg]; exact refHeight_any e _ W (hcs.on hW) (by omega))
    have te : (ce == ce) = true := by simp
    have tg : ((g : Int) == (g : Int)) = true := by simp
    clear hcs hf hs hO hc hb hlim hsz hce hg
    go_enter Tryz.func3, Tryz.ntmps3
    go_wp2_with (first
      | (go_at_call 4; (with_reducible refine (HF.out _ HB.out).mono ?_); rintro e' w2 ⟨rfl, hb2⟩; have HB2 := Lib.hid (Mem.on HB.out hb2); have HK2 := Lib.hid hb2; clear hb2))
    have HX2 := Lib.hid (show ∀ W', Below w2.heap.size w2 W' → W'.cell? ⟨w.heap.size, 0, none⟩ = some (.int .i64 k) ∧ W'.cell? ⟨w.heap.size, 1, none⟩ = some (.int .i64 o) ∧ W'.cell? ⟨w.heap.size, 2, none⟩ = some (.int .i64 vk) ∧ W'.cell? ⟨w.heap.size, 3, none⟩ = some (.int .i64 vn) ∧ W'.cell? ⟨w.heap.size, 4, none⟩ = some (.string (txt vs)) ∧ W'.cell? ⟨w.heap.size, 5, none⟩ = some (.string (txt nm)) ∧ W'.cell? ⟨w.heap.size, 6, none⟩ = some (.slice A kn c) from fun W' hW' => HX.out W' (Mem.on HK2.out hW'))
    clear x0 x1 x2 x3 x4 x5 x6
    refine wp_region_quiet (C := fun w' => Below w2.heap.size w2 w') (by kernel_rfl) (by kernel_rfl) (Below.refl _ _).drew ?_
    repeat (first | go_big_quiet_skip | (refine BigFrame.wpQuiet_want rfl (fun K hK => ?_); refine quietC_val ?_; apply Exists.intro; refine ⟨fun W hW => ?_, hK _ ?_⟩; (focus (obtain ⟨z0, z1, z2, z3, z4, z5, z6⟩ := HX2.out W hW; go_simp; first | done | rfl)); clear hK K; simp only [Act.put, List.setIfInBounds_toArray, List.set_cons_zero, List.set_cons_succ]) | (quiet_step ((intro hW; first | (go_at_call 6; exact ((HC.out _ (Mem.on HB2.out hW)).mono fun _ _ ⟨a, b⟩ => ⟨a, Mem.on hW b⟩)) | (go_at_call 7; exact ((HR.out _ (Mem.on HB2.out hW)).mono fun _ _ ⟨a, b⟩ => ⟨a, Mem.on hW b⟩)) | (go_at_call 8; exact ((HG.out _ (Mem.on HB2.out hW)).mono fun _ _ ⟨a, b⟩ => ⟨a, Mem.on hW b⟩)) | (go_at_call 9; exact ((HQ.out _ (Mem.on HB2.out hW)).mono fun _ _ ⟨a, b⟩ => ⟨a, Mem.on hW b⟩)) | (go_at_call 5; exact ((HW.out _ (Mem.on HB2.out hW)).mono fun _ _ ⟨a, b⟩ => ⟨a, Mem.on hW b⟩))))))
    refine wpQuiet_nil ?_
    intro W9 hw9
    have HW9 := Lib.hid hw9
    clear hw9
    go_wp2
    go_ret
    exact ⟨rfl, Mem.on HB2.out HW9.out⟩
end Go.Proofs.YtmhojhfajkhbbaaGreatDoor.Ep
