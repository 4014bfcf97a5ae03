/- The document's heap: All; Pages. -/
import Derived.Test.YthcilmlaoddckaaHeapRefSets
namespace Go.Proofs.Ythcilmlaoddckaa.Pg
open Go.RowKit Go.Proofs.Ythcilmlaoddckaa.Mem Go.Proofs.Ythcilmlaoddckaa.Right
set_option linter.unusedVariables false

/-- Each item's data can be read. -/
def Rds (w : World) (xs : List Iv) : Prop := ∀ x ∈ xs, ∃ A c, x.v = .slice A x.it.d.length c ∧ Bs w A x.it.d.length c x.it.d
theorem Rds.snoc {w : World} {xs : List Iv} {x : Iv} {A : Option Addr} {c : Nat} (h : Rds w xs) (e : x.v = .slice A x.it.d.length c) (hb : Bs w A x.it.d.length c x.it.d) : Rds w (xs ++ [x]) := fun y hy => by
  rcases List.mem_append.1 hy with hy | hy
  · exact h y hy
  · rw [List.mem_singleton] at hy; subst hy; exact ⟨A, c, e, hb⟩
theorem MadeI.below {w w' w2 : World} {v : Value} {xs : List Iv} (h : MadeI w v xs w') (hb : Below w'.heap.size w' w2) : MadeI w v xs w2 := ⟨row_blw h.1 hb, Mem.on h.2 hb⟩
theorem itsN_yes {k : Nat} {S : List Sl} {j : Nat} (h : full S j = true) : itsN k S (j + 1) = itsN k S j ++ [itOf k S j] := by
  unfold itsN; rw [slotsN_yes h, List.map_append]; rfl
theorem itsN_no {k : Nat} {S : List Sl} {j : Nat} (h : full S j = false) : itsN k S (j + 1) = itsN k S j := by
  unfold itsN; rw [slotsN_no h]
theorem itsN_len (k : Nat) (S : List Sl) (j : Nat) : (itsN k S j).length ≤ j := by
  unfold itsN; rw [List.length_map]; exact slotsN_len S j
set_option maxRecDepth 100000 in
set_option maxHeartbeats 4000000 in
theorem all_r (n₀ B : Nat) (L : List (List Sl)) (w : World) (h : RP w n₀ B L) :
    Calls Try.prog 12 #[.pointer (some ⟨B, 0, none⟩)] w fun e w' => ∃ A c, e = .returned (.slice A (allH L).length c) ∧ IL 76 w' A (allH L).length (allH L) ∧ Below w.heap.size w w' := by
  obtain ⟨n, hn⟩ : ∃ n, L.length = n := ⟨_, rfl⟩
  have hn64 : n ≤ 64 := by have := h.few; omega
  obtain ⟨A, c, ⟨y0, _⟩, _, hA, hc1, hc2⟩ := h.open_
  have HA := Lib.hid hA
  have HN := Lib.hid hn
  have HE := Lib.hid h.each
  rw [hn] at y0
  have hB := h.lt
  have HK : Hid (∀ W, Below w.heap.size w W → W.cell? ⟨B, 0, none⟩ = some (.slice A n c)) := Lib.hid fun W hW => (hW.cell (p := ⟨B, 0, none⟩) hB).trans y0
  clear h hA hn y0 hc1 hc2
  go_enter Try.func12, Try.ntmps12
  go_wp2
  go_loopw [3, 4] (fun o i wr => ∃ (k : Nat) (v : Value) (xs : List Iv), k ≤ n ∧ o = v ∧ i = .int .i64 k ∧ Hid (MadeI w v xs wr) ∧ Hid (xs.map (fun x => x.it) = allN L k) ∧ Hid (Rds w xs)) (fun _ i _ => n - (intOf i).toNat)
  case atStart => exact ⟨0, _, [], Nat.zero_le _, rfl, rfl, Lib.hid ⟨World.ownsRow_nil _ _ _ _, Below.refl _ _⟩, Lib.hid rfl, Lib.hid (fun x hx => by simp at hx)⟩
  case round =>
    obtain ⟨k, v, xs, hk, rfl, rfl, HM, HX, HR⟩ := hrel
    have q0 := HK.out wr HM.out.2
    by_cases hlt : k < n
    · have hlt' : (k : Int) < (n : Int) := by omega
      have hkL : k < L.length := by rw [HN.out]; exact hlt
      obtain ⟨g, cap, r, ev, _, _, cg, _, hr⟩ := HA.out.get hkL
      injection ev with e1 e2 e3
      subst e1 e3
      obtain ⟨rA, rn, rc⟩ := r
      have hcg : w.cell? ⟨g, k, none⟩ = some (.slice rA rn rc) := cg
      have HC : Hid (∀ W, Below w.heap.size w W → W.cell? ⟨g, k, none⟩ = some (.slice rA rn rc)) := Lib.hid fun W hW => (hW.cell (p := ⟨g, k, none⟩) (cell_lt cg)).trans hcg
      have HRL : Hid (RL w rA rn rc (pageOf L k)) := Lib.hid hr
      have hrn : rn ≤ 255 := by
        have h1 := hr.len
        have h2 := (ok_page HE.out k).fit.room
        simp only at h1
        omega
      have HLN : Hid ((pageOf L k).length = rn) := Lib.hid hr.len
      clear hcg cg hr e2
      go_wp2
      go_loopw [3, 5] (fun o i wv => ∃ (j : Nat) (v' : Value) (ys : List Iv), j ≤ rn ∧ o = v' ∧ i = .int .i64 j ∧ Hid (MadeI w v' ys wv) ∧ Hid (ys.map (fun x => x.it) = allN L k ++ itsN k (pageOf L k) j) ∧ Hid (Rds w ys)) (fun _ i _ => rn - (intOf i).toNat)
      case atStart => exact ⟨0, _, xs, Nat.zero_le _, rfl, rfl, HM, Lib.hid (by rw [HX.out]; simp [itsN, slotsN]), HR⟩
      case round =>
        clear q0
        obtain ⟨j, v', ys, hj, rfl, rfl, HM2, HX2, HR2⟩ := hrel
        have q0 := HK.out wr HM2.out.2
        have q1 := HC.out wr HM2.out.2
        have hkn' : (k : Int) < (n : Int) := by omega
        by_cases hjr : j < rn
        · obtain ⟨b, o, A', c', rfl, hb, s0, s1, hbs⟩ := HRL.out.get hjr
          have hjr' : (j : Int) < (rn : Int) := by omega
          have s0' := (HM2.out.2.cell (p := ⟨b, o + j * 2, none⟩) hb).trans s0
          have s1' : wr.cell? ⟨b, o + j * 2 + 1, none⟩ = some (.slice A' (dat (sl (pageOf L k) j)).length c') := (HM2.out.2.cell (p := ⟨b, o + j * 2 + 1, none⟩) hb).trans s1
          have hlen : ys.length ≤ 100000 := by
            have h1 := congrArg List.length HX2.out
            rw [List.length_map, List.length_append] at h1
            have h2 := allH_len L k HE.out
            have h3 := itsN_len k (pageOf L k) j
            omega
          have HLEN := Lib.hid hlen
          have HBS : Hid (Bs w A' (dat (sl (pageOf L k) j)).length c' (dat (sl (pageOf L k) j))) := Lib.hid hbs
          clear s0 s1 hbs hlen
          cases hs : (sl (pageOf L k) j).isSome with
          | true =>
            have HF := Lib.hid (show full (pageOf L k) j = true by rw [full_sl]; exact hs)
            rw [hs] at s0'
            have HI : Hid (itOf k (pageOf L k) j = ⟨k, j, dat (sl (pageOf L k) j)⟩) := Lib.hid rfl
            clear hs
            go_wp2_with (at_builtin; go_loud (refine wp_item (x := ⟨itOf k (pageOf L k) j, .slice A' (dat (sl (pageOf L k) j)).length c'⟩) (n := (dat (sl (pageOf L k) j)).length) rfl rfl (.tmp 38) (.tmp 54) rfl rfl rfl HM2.out rfl HLEN.out ?_; intro v1 w1 m1; have HM3 := Lib.hid m1; clear m1))
            go_roundw
            case rel => exact ⟨j + 1, _, ys ++ [⟨itOf k (pageOf L k) j, .slice A' (dat (sl (pageOf L k) j)).length c'⟩], by omega, rfl, by go_num, HM3, Lib.hid (by rw [List.map_append, HX2.out, itsN_yes HF.out, List.append_assoc]; rfl), Lib.hid (HR2.out.snoc rfl HBS.out)⟩
            case measure => simp [intOf]; omega
          | false =>
            have HF := Lib.hid (show full (pageOf L k) j = false by rw [full_sl]; exact hs)
            rw [hs] at s0'
            clear hs
            go_wp2
            go_roundw
            case rel => exact ⟨j + 1, _, ys, by omega, rfl, by go_num, HM2, Lib.hid (by rw [HX2.out, itsN_no HF.out]), HR2⟩
            case measure => simp [intOf]; omega
        · obtain rfl : j = rn := by omega
          go_wp2
          go_roundw
          case rel => exact ⟨k + 1, _, ys, by omega, rfl, by go_num, HM2, Lib.hid (by
            rw [HX2.out]
            show _ = allN L k ++ itsN k (pageOf L k) (pageOf L k).length
            rw [HLN.out]), HR2⟩
          case measure => simp [intOf]; omega
    · obtain rfl : k = n := by omega
      have hl : xs.length = (allH L).length := by
        have := congrArg List.length HX.out
        rw [List.length_map] at this
        rw [this]; unfold allH; rw [HN.out]
      obtain ⟨A1, c1, rfl⟩ := row_slice HM.out.1
      have HL := Lib.hid hl
      clear hl
      go_wp2
      go_ret
      rw [HL.out]
      have ho := HM.out.1
      rw [HL.out] at ho
      exact ⟨A1, c1, rfl, ⟨xs, by rw [HX.out]; unfold allH; rw [HN.out], rfl, (own3 ho).1, (own3 ho).2, fun x hx => by
        obtain ⟨A2, c2, e2, hb2⟩ := HR.out x hx
        exact ⟨A2, c2, e2, hb2.below HM.out.2⟩⟩, HM.out.2⟩
/-- The bytes of a page of slots, in a block of their own. -/
theorem bytes_t (A : Option Addr) (n c : Nat) (S : List Sl) (w : World) (h : RL w A n c S) (hS : Ok S) :
    Calls Try.prog 45 #[.slice A n c] w fun e w' => ∃ g, e = .returned (.slice (some ⟨g, 0, none⟩) 512 512) ∧ GoodT w' (some ⟨g, 0, none⟩) 512 S ∧ Below w.heap.size w w' :=
  (bytes_ref A n c S w h hS.fit).mono fun e w' ⟨g, _, a, b, c⟩ => ⟨g, a, ⟨⟨blk_bs b hS.fit.len (by decide), hS⟩, g, rfl, _, _, b.heap⟩, c⟩
set_option maxHeartbeats 1000000 in
theorem pages_r (n₀ B : Nat) (L : List (List Sl)) (w : World) (h : RP w n₀ B L) :
    Calls Try.prog 27 #[.pointer (some ⟨B, 0, none⟩)] w fun e w' => ∃ A c, e = .returned (.slice A L.length c) ∧ PL w' A L.length c L ∧ Below w.heap.size w w' := by
  obtain ⟨n, hn⟩ : ∃ n, L.length = n := ⟨_, rfl⟩
  have hn64 : n ≤ 64 := by have := h.few; omega
  obtain ⟨A, c, ⟨y0, _⟩, _, hA, hc1, hc2⟩ := h.open_
  have HA := Lib.hid hA
  have HN := Lib.hid hn
  have HE := Lib.hid h.each
  rw [hn] at y0 ⊢
  have hB := h.lt
  have HK : Hid (∀ W, Below w.heap.size w W → W.cell? ⟨B, 0, none⟩ = some (.slice A n c)) := Lib.hid fun W hW => (hW.cell (p := ⟨B, 0, none⟩) hB).trans y0
  clear h hA hn y0 hc1 hc2
  go_enter Try.func27, Try.ntmps27
  go_wp2
  go_loopw [3, 4] (fun v i wr => ∃ (k : Nat) (rs : List Pp), k ≤ n ∧ rs.length = k ∧ i = .int .i64 k ∧ Hid (MadeP w v rs wr) ∧ Hid (GoodsT wr rs L)) (fun _ i _ => n - (intOf i).toNat)
  case atStart => exact ⟨0, [], Nat.zero_le _, rfl, rfl, Lib.hid (MadeP.start (Below.refl _ _)), Lib.hid (fun k r S h => by simp at h)⟩
  case round =>
    obtain ⟨k, rs, hk, hrs, rfl, HM, HG⟩ := hrel
    have q0 := HK.out wr HM.out.2
    by_cases hlt : k < n
    · have hlt' : (k : Int) < (n : Int) := by omega
      have hkL : k < L.length := by rw [HN.out]; exact hlt
      obtain ⟨g, cap, r, ev, _, _, cg, _, hr⟩ := HA.out.get hkL
      injection ev with e1 e2 e3
      subst e1 e3
      obtain ⟨rA, rn, rc⟩ := r
      have hcg : w.cell? ⟨g, k, none⟩ = some (.slice rA rn rc) := cg
      have q1 := (HM.out.2.cell (p := ⟨g, k, none⟩) (cell_lt cg)).trans hcg
      have HRL : Hid (RL wr rA rn rc (pageOf L k)) := Lib.hid (RL.below hr HM.out.2)
      have HOK := Lib.hid (ok_page HE.out k)
      have HN1 : Hid (rs.length ≤ 2000) := Lib.hid (by omega)
      have HK2 := Lib.hid (show L[k]? = some (pageOf L k) from pageOf_lt (by omega))
      clear hcg cg hr e2
      go_wp2_with first | (go_at_call 45; (with_reducible refine (bytes_t rA rn rc (pageOf L k) _ HRL.out HOK.out).mono ?_); rintro e w1 ⟨g1, rfl, hg1, hb1⟩; have HM1 := Lib.hid (HM.out.below hb1); have HG1 := Lib.hid ((HG.out.below hb1).next hrs HK2.out hg1); clear hg1 hb1) | (at_builtin; go_loud (refine wp_page (.tmp 14) (.tmp 23) rfl rfl rfl HM1.out rfl HN1.out ?_; intro v' w2 m2 g2; have HM2 := Lib.hid m2; have HG2 := Lib.hid (HG1.out.grown HM1.out g2); clear m2 g2))
      go_roundw
      case rel => exact ⟨k + 1, rs ++ [(some ⟨g1, 0, none⟩, 512)], by omega, by simp; omega, by go_num, HM2, HG2⟩
      case measure => simp [intOf]; omega
    · obtain rfl : k = n := by omega
      obtain ⟨A', c', e, hp⟩ := HM.out.pl (by rw [hrs, HN.out]) HG.out.goods
      rw [HN.out] at e hp
      have HP := Lib.hid hp
      subst e
      clear hp
      go_wp2
      go_ret
      exact ⟨A', c', rfl, HP.out, HM.out.2⟩
end Go.Proofs.Ythcilmlaoddckaa.Pg
