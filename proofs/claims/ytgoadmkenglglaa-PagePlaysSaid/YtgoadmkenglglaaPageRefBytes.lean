/- The bytes that the document lays of slots: the page. -/
import Derived.Test.YtgoadmkenglglaaPageRefMath
import Derived.Deep.QuietTactic
import Derived.BigQuiet
namespace Go.Proofs.Ytgoadmkenglglaa.Pg
open Go.RowKit Go.Proofs.Ytgoadmkenglglaa.Mem Go.Proofs.Ytgoadmkenglglaa.Right
set_option linter.unusedVariables false

theorem hi_eq {v : Nat} (h : v < 65536) : (v : Int) / 256 = ((hi v).toNat : Int) := by unfold hi; rw [UInt8.toNat_ofNat']; omega
theorem lo_eq (v : Nat) : (v : Int) % 256 = ((lo v).toNat : Int) := by unfold lo; rw [UInt8.toNat_ofNat']; omega
set_option maxHeartbeats 2000000 in
theorem bytes_ref (A : Option Addr) (n c : Nat) (S : List Sl) (w : World) (h : RL w A n c S) (hS : Fit S) :
    Calls Try.prog 8 #[.slice A n c] w fun e w' => ∃ g, w.heap.size ≤ g ∧ e = .returned (.slice (some ⟨g, 0, none⟩) 512 512) ∧ Blk w' g (pg S) [] ∧ Below w.heap.size w w' := by
  obtain ⟨Z, hZ, hmk0⟩ : ∃ Z : Array Value, Z = (List.replicate 512 (Value.int .u8 0)).toArray ∧ ∀ wx : World, (Instr.makeSlice 23 (.int .i64 512) (.int .i64 512)).run Try.prog wx = .ok (.slice (some ⟨wx.heap.size, 0, none⟩) 512 512) (wx.alloc (.cells Z 5)) := ⟨_, rfl, fun wx => by kernel_rfl⟩
  have hB0 : Blk (w.alloc (.cells Z 5)) w.heap.size (pgn 0 []) [] := by
    show (w.alloc _).heap[w.heap.size]? = _
    rw [World.alloc_heap_new, hZ, List.append_nil, show pgn 0 [] = zs 512 from pg_nil]
    have e : bys (zs 512) = List.replicate 512 (Value.int .u8 0) := by
      unfold bys zs
      rw [List.map_replicate]; rfl
    rw [e]
  have hb0 : Below w.heap.size w (w.alloc (.cells Z 5)) := al (Below.refl _ _) _
  have hmk := hmk0 w
  clear hZ hmk0
  obtain ⟨W, hW⟩ : ∃ W, w.alloc (.cells Z 5) = W := ⟨_, rfl⟩
  obtain ⟨g, hg⟩ : ∃ g, w.heap.size = g := ⟨_, rfl⟩
  rw [hW, hg] at hmk hB0
  rw [hW] at hb0
  have hge : w.heap.size ≤ g := by omega
  have hl := h.len
  have hroom := hS.room
  have HG := Lib.hid hg
  have HH := Lib.hid h
  have HW := Lib.hid hb0
  have H0 := Lib.hid hB0
  obtain ⟨x0, x1⟩ := pgn_count 0 []
  have c1 := hB0.at_cell x0
  have c2 := hB0.at_cell x1
  have f1 := hB0.open_ 0
  have f2 := hB0.open_ 1
  have hn : n < 65536 := by omega
  have hn5 : n ≤ 255 := by omega
  clear h hB0 x0 x1 hW hg hb0
  go_enter Try.func8, Try.ntmps8
  go_wp2
  have HB1 := Lib.hid (show Blk ((W.setCell ⟨g, 0, none⟩ (.int .u8 ((n : Int) / 256))).setCell ⟨g, 1, none⟩ (.int .u8 ((n : Int) % 256))) g (pgn n []) [] by
    have := (H0.out.set (k := 0) (by decide +kernel) (hi n) (hi_eq hn)).set (k := 1) (by rw [List.length_set]; decide +kernel) (lo n) (lo_eq n)
    exact this)
  have HW1 := Lib.hid (show Below w.heap.size w ((W.setCell ⟨g, 0, none⟩ (.int .u8 ((n : Int) / 256))).setCell ⟨g, 1, none⟩ (.int .u8 ((n : Int) % 256))) from (HW.out.setCell (p := ⟨g, 0, none⟩) hge _).setCell (p := ⟨g, 1, none⟩) hge _)
  clear c1 c2 f1 f2
  go_loopw [4, 5] (fun to i wr => ∃ k T : Nat, k ≤ n ∧ T ≤ 512 ∧ to = .int .i64 T ∧ i = .int .i64 k ∧ Hid (T = 512 - tot (S.take k)) ∧ Hid (Blk wr g (pgn n (S.take k)) []) ∧ Hid (Below w.heap.size w wr)) (fun _ i _ => n - (intOf i).toNat)
  case atStart => exact ⟨0, 512, Nat.zero_le _, Nat.le_refl _, rfl, rfl, Lib.hid rfl, HB1, HW1⟩
  case round =>
    obtain ⟨k, T, hk, hT, rfl, rfl, HT, HBk, HWk⟩ := hrel
    clear HB1 HW1 hmk
    by_cases hlt : k < n
    · obtain ⟨b, o, A', c', rfl, hb, cw0, cw1, hbs⟩ := HH.out.get hlt
      have c0 := (HWk.out.cell (p := ⟨b, o + k * 2, none⟩) hb).trans cw0
      have hlt' : (k : Int) < (n : Int) := by omega
      have htk := tot_take S (k + 1)
      have ets := take_sl (S := S) (k := k) (by omega)
      have etk : (S.take k).length = k := by rw [List.length_take]; omega
      rw [ets, tot_app] at htk
      have htk2 : tot (S.take k) + ln (sl S k) ≤ tot S := htk
      cases hs : sl S k with
      | none =>
        have HT2 := Lib.hid (show T = 512 - tot (S.take (k + 1)) by rw [ets, tot_app, hs, HT.out]; rfl)
        have HB2 := Lib.hid (show Blk _ g (pgn n (S.take (k + 1))) [] by rw [ets, hs, pgn_more n _ (by rw [etk]; omega)]; exact HBk.out)
        rw [hs] at c0
        have c0' : wr.cell? ⟨b, o + k * 2, none⟩ = some (.bool false) := c0
        clear c0 cw0 cw1 hbs htk ets etk htk2 hs
        go_wp2
        go_roundw
        case rel => exact ⟨k + 1, T, by omega, hT, rfl, by go_num, HT2, HB2, HWk⟩
        case measure => simp [intOf]; omega
      | some d =>
        rw [hs] at c0 cw1 hbs htk2
        have hd5 : d.length ≤ 255 := by
          obtain ⟨h', e'⟩ : ∃ h' : k < S.length, S[k] = some d := by
            have : k < S.length := by omega
            refine ⟨this, ?_⟩
            have e2 := sl_some hs
            rw [List.getElem?_eq_getElem this] at e2
            injection e2
          exact hS.each _ (e' ▸ List.getElem_mem h')
        obtain ⟨m, hm⟩ : ∃ m, d.length = m := ⟨_, rfl⟩
        obtain ⟨P, hP⟩ : ∃ P, 2 * (k + 1) = P := ⟨_, rfl⟩
        have hlen : (pgn n (S.take k)).length = 512 := len_pgn (by rw [etk]; omega)
        have hdm : ln (some d) = m := hm
        have hP5 : P + 1 < 512 := by omega
        have hP2 : 2 + 2 * (k : Int) = (P : Int) := by omega
        have hP3 : 3 + 2 * (k : Int) = (P : Int) + 1 := by omega
        have c1 := (HWk.out.cell (p := ⟨b, o + k * 2 + 1, none⟩) hb).trans cw1
        rw [hdm] at c1 cw1 hbs htk2
        have c0' : wr.cell? ⟨b, o + k * 2, none⟩ = some (.bool true) := c0
        obtain ⟨y1, hy1⟩ : ∃ y, (pgn n (S.take k))[P]? = some y := ⟨_, List.getElem?_eq_getElem (by omega)⟩
        obtain ⟨y2, hy2⟩ : ∃ y, (pgn n (S.take k))[P + 1]? = some y := ⟨_, List.getElem?_eq_getElem (by omega)⟩
        have g1 := HBk.out.at_cell hy1
        have g2 := HBk.out.at_cell hy2
        have f1 := HBk.out.open_ P
        have f2 := HBk.out.open_ (P + 1)
        have hm6 : m + 1 < 65536 := by omega
        have hm5 : m ≤ 255 := by omega
        have hbg : b ≠ g := by omega
        have HT0 := Lib.hid (show T = 512 - tot (S.take k) from HT.out)
        obtain ⟨F, hF⟩ : ∃ F, F + m = T := ⟨T - m, by have := HT.out; omega⟩
        have hF2 : (T : Int) - (m : Int) = (F : Int) := by omega
        have HF := Lib.hid hF
        have HET := Lib.hid ets
        have HEK := Lib.hid etk
        have HBS := Lib.hid hbs
        have HM := Lib.hid hm
        have HPP := Lib.hid hP
        have HLN := Lib.hid hlen
        have HS := Lib.hid hs
        have HC1 := Lib.hid cw1
        clear c0 cw0 cw1 hbs ets etk hs hF hP hlen hdm htk hm hy1 hy2
        go_wp2
        have HB2 := Lib.hid (show Blk ((wr.setCell ⟨g, P, none⟩ (.int .u8 (((m : Int) + 1) / 256))).setCell ⟨g, P + 1, none⟩ (.int .u8 (((m : Int) + 1) % 256))) g (put2 (pgn n (S.take k)) P (m + 1)) [] from
          (HBk.out.set (k := P) (by rw [HLN.out]; omega) (hi (m + 1)) (by have := hi_eq hm6; rwa [Int.natCast_add] at this)).set (k := P + 1) (by rw [List.length_set, HLN.out]; omega) (lo (m + 1)) (by have := lo_eq (m + 1); rwa [Int.natCast_add] at this))
        have HW2 := Lib.hid (show Below w.heap.size w ((wr.setCell ⟨g, P, none⟩ (.int .u8 (((m : Int) + 1) / 256))).setCell ⟨g, P + 1, none⟩ (.int .u8 (((m : Int) + 1) % 256))) from (HWk.out.setCell (p := ⟨g, P, none⟩) hge _).setCell (p := ⟨g, P + 1, none⟩) hge _)
        obtain ⟨M, hM⟩ : ∃ M, put2 (pgn n (S.take k)) P (m + 1) = M := ⟨_, rfl⟩
        rw [hM] at HB2
        have HML := Lib.hid (show M.length = 512 by rw [← hM, put2_len]; exact HLN.out)
        have HMM := Lib.hid hM
        clear hM g1 g2 f1 f2 c1 c0' hP2 hP3
        go_loopw [7] (fun q wx => ∃ j : Nat, j ≤ m ∧ q = .int .i64 j ∧ Hid (Blk wx g (splice M F (d.take j)) []) ∧ Hid (Below w.heap.size w wx)) (fun q _ => m - (intOf q).toNat)
        case atStart => exact ⟨0, Nat.zero_le _, rfl, Lib.hid (by rw [List.take_zero, splice_nil]; exact HB2.out), HW2⟩
        case round =>
          obtain ⟨j, hj, rfl, HBj, HWj⟩ := hrel
          clear HB2 HW2
          by_cases hjl : j < m
          · obtain ⟨b', o', x, rfl, hb', hx, hcell⟩ := (HBS.out.1.below HWj.out (Nat.le_refl _)).byte (k := j) (by rw [show (dat (some d)) = d from rfl, HM.out]; exact hjl)
            have c1 := (HWj.out.cell (p := ⟨b, o + k * 2 + 1, none⟩) hb).trans HC1.out
            have hsl : (splice M F (d.take j)).length = 512 := by
              rw [splice_len (by rw [List.length_take, HML.out, HM.out]; have := HF.out; omega)]; exact HML.out
            obtain ⟨y1, hy1⟩ : ∃ y, (splice M F (d.take j))[F + j]? = some y := ⟨_, List.getElem?_eq_getElem (by rw [hsl]; have := HF.out; omega)⟩
            have g1 := HBj.out.at_cell hy1
            have f1 := HBj.out.open_ (F + j)
            have HX : Hid (d[j]? = some x) := Lib.hid hx
            have HSL := Lib.hid hsl
            have hjm : (j : Int) < (m : Int) := by omega
            have hFj : F + j < 512 := by have := HF.out; omega
            clear hx hsl hy1
            go_wp2
            go_roundw
            case rel =>
              refine ⟨j + 1, by omega, by go_num, Lib.hid ?_, Lib.hid (HWj.out.setCell (p := ⟨g, F + j, none⟩) hge _)⟩
              rw [← splice_more HX.out (by rw [HM.out, HML.out]; have := HF.out; omega)]
              exact HBj.out.set (k := F + j) (by rw [HSL.out]; exact hFj) x rfl
            case measure => simp [intOf]; omega
          · obtain rfl : j = m := by omega
            have hdl : d.take d.length = d := List.take_length
            have HT2 := Lib.hid (show F = 512 - tot (S.take (k + 1)) by rw [HET.out, tot_app, HS.out]; show F = 512 - (_ + (d.length + 0)); have := HF.out; have := HT0.out; have := HM.out; omega)
            have HB3 := Lib.hid (show Blk _ g (pgn n (S.take (k + 1))) [] by
              have e := pgn_some n (S.take k) d (by rw [HEK.out, HM.out]; omega)
              rw [HEK.out, HPP.out, HM.out, HMM.out] at e
              have e2 : 512 - tot (S.take k) - j = F := by have := HF.out; have := HT0.out; omega
              rw [e2] at e
              rw [HET.out, HS.out, ← e]
              have := HBj.out
              rw [← HM.out, hdl] at this
              exact this)
            clear hdl hjl
            go_wp2
            go_roundw
            case rel => exact ⟨k + 1, F, by omega, by have := HF.out; omega, by go_num, by go_num, HT2, HB3, HWj⟩
            case measure => simp [intOf]; omega
    · obtain rfl : k = n := by omega
      go_wp2
      go_ret
      refine ⟨g, hge, rfl, ?_, HWk.out⟩
      have := HBk.out
      rw [List.take_of_length_le (by omega)] at this
      rw [← hl] at this
      exact this
end Go.Proofs.Ytgoadmkenglglaa.Pg
