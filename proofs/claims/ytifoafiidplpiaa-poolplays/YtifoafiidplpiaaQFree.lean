/- The document's pool: free. -/
import Derived.Test.YtifoafiidplpiaaQWrite
namespace Go.Proofs.Ytifoafiidplpiaa
open Go.RowKit
set_option linter.unusedVariables false
set_option linter.unusedSimpArgs false

def Pl.rfree (bad : Int) (S : Pl (List Int)) : Int × Nat × Pl (List Int) := match S.pick.2.fs[S.pick.1]? with
  | some f => ((S.pick.2.rwrote bad f).1, S.pick.1, (S.pick.2.rwrote bad f).2)
  | none => (0, S.pick.1, S.pick.2)
/-- Frames hold pages of the file, or are clean. -/
def FmOk (f : Fm) : Prop := (f.held = false → f.dirty = false) ∧ (f.held = true → 0 ≤ f.page ∧ f.page < 6)
theorem FmOk.dirty {f : Fm} (h : FmOk f) (hd : f.dirty = true) : f.held = true ∧ 0 ≤ f.page ∧ f.page < 6 := by
  cases hh : f.held with
  | false => rw [h.1 hh] at hd; cases hd
  | true => exact ⟨rfl, h.2 hh⟩
def askR (w : World) (gF N : Nat) : Nat := (List.range N).countP (fun i => askB (w.cell? ⟨gF, i * 6 + 3, none⟩))
section
variable {w w' : World} {r gD gF cD cF : Nat} {dx fx : List Value} {fov : Value} {S : Pl (List Int)} {bad : Int} {fp : List Nat}
theorem RefIs.askR (h : RefIs w r gD gF cD cF dx fx fov S bad) : askR w gF S.fs.length = S.nAsk := by
  unfold Ytifoafiidplpiaa.askR Pl.nAsk
  refine countP_range _ _ _ (fun i f hi => ?_)
  obtain ⟨_, _, _, _, d3, _⟩ := h.cells i f hi
  rw [d3]
  rfl
theorem RefIs.nAsk (h : RefIs w r gD gF cD cF dx fx fov S bad) : S.nAsk < 65 := by
  have := h.f2
  have h2 := List.countP_le_length (p := fun f : Fm => f.asked) (l := S.fs)
  unfold Pl.nAsk
  omega
theorem RefIs.mark (h : RefIs w r gD gF cD cF dx fx fov S bad) (i : Nat) (f : Fm) (hf : S.fs[i]? = some f) (b : Bool) : RefIs (w.setCell ⟨gF, i * 6 + 3, none⟩ (.bool b)) r gD gF cD cF dx fx fov { S with fs := S.fs.set i { f with asked := b } } bad :=
  h.setK i f hf 3 (.bool b) { f with asked := b } (by omega) rfl
set_option maxHeartbeats 2000000 in
set_option maxRecDepth 100000 in
theorem rfree_any (h : RefIs w r gD gF cD cF dx fx fov S bad) (hfo : S.fo.length ≤ 100000) (hwr : S.wr ≤ 1000000) (hpg : ∀ f ∈ S.fs, FmOk f) :
    Calls Try.prog 43 #[.pointer (some ⟨r, 0, none⟩)] w fun e w' => e = .returned (.tuple #[.int .i64 ((S.rfree bad).2.1 : Int), .int .i64 (S.rfree bad).1]) ∧ RefTo w w' r gD gF (RefFp r gD gF fov) (S.rfree bad).2.2 bad := by
  have c1 := h.c1
  have hm64 := h.f2
  have H := hide h
  clear h
  cases hE : S.empty with
  | some i =>
    have hI := List.findIdx?_eq_some_iff_getElem.1 hE
    obtain ⟨hil, hip, hij⟩ := hI
    have HPK : Hid (S.pick = (i, S)) := by show _ = _; unfold Pl.pick; rw [hE]
    have HNE : Hid (∀ (j : Nat) y, j < i → S.fs[j]? = some y → y.held = true) := fun j y hj hy => by
      have := hij j hj
      obtain ⟨hjl, rfl⟩ := List.getElem?_eq_some_iff.1 hy
      simpa using this
    have hfi : S.fs[i]? = some S.fs[i] := List.getElem?_eq_getElem hil
    have hhe : S.fs[i].held = false := by simpa using hip
    generalize S.fs[i] = f at *
    have HFI := hide hfi
    have HHE := hide hhe
    have HFR : Hid (S.rfree bad = (0, i, S)) := by
      show _ = _
      have hd := (hpg f (List.mem_of_getElem? hfi)).1 hhe
      unfold Pl.rfree
      rw [HPK.out]
      simp only [hfi]
      unfold Pl.rwrote
      rw [if_neg (by rw [hd]; simp)]
    clear hE hip hij hfi hhe
    go_enter Try.func43, Try.ntmps43
    go_wp2
    go_loopw [4] (fun i' wr => ∃ k : Nat, k ≤ i ∧ i' = .int .i64 k ∧ wr = w) (fun i' _ => i - (intOf i').toNat)
    case atStart => exact ⟨0, by omega, rfl, rfl⟩
    case round =>
      obtain ⟨k, hk, rfl, hw⟩ := hrel
      have hw2 := hw.symm
      subst hw2
      clear hw
      obtain ⟨N, hN⟩ : ∃ N, S.fs.length = N := ⟨_, rfl⟩
      by_cases hlt : k < i
      · obtain ⟨y, hf⟩ : ∃ f, S.fs[k]? = some f := ⟨_, List.getElem?_eq_getElem (by omega)⟩
        obtain ⟨_, d0, _⟩ := H.out.cells k y hf
        have hh := HNE.out k y hlt hf
        have hp0 := ((hpg y (List.mem_of_getElem? hf)).2 hh).1
        obtain ⟨pn, hpn⟩ : ∃ pn : Int, pageNo y = pn := ⟨_, rfl⟩
        have hneg : ¬ pn < 0 := by rw [← hpn]; unfold pageNo; rw [if_pos hh]; omega
        rw [hpn] at d0
        clear hf hpn hh hp0
        rw [hN] at c1 hm64 hil
        have hkN : k < N := by omega
        clear hN
        go_wp2
        go_roundw
        case rel => exact ⟨k + 1, by omega, by go_num, by first | rfl | trivial⟩
        case measure => simp [intOf]; omega
      · have hk' : k = i := by omega
        subst hk'
        obtain ⟨_, d0, _⟩ := H.out.cells k f HFI.out
        have hpn : pageNo f = -1 := by unfold pageNo; rw [if_neg (by rw [HHE.out]; simp)]
        rw [hpn] at d0
        rw [hN] at c1 hm64 hil
        clear hN hpn
        go_wp2
        go_ret2
        rw [HFR.out]
        exact ⟨rfl, H.out.to (Off.refl _ _)⟩
  | none =>
    have HNE : Hid (∀ (j : Nat) y, S.fs[j]? = some y → y.held = true) := fun j y hy => by
      have := List.findIdx?_eq_none_iff.1 hE y (List.mem_of_getElem? hy)
      simpa using this
    have HPK : Hid (S.pick = S.clock 65) := by show _ = _; unfold Pl.pick; rw [hE]
    clear hE
    go_enter Try.func43, Try.ntmps43
    go_wp2
    go_loopw [4] (fun i wr => ∃ k : Nat, k ≤ S.fs.length ∧ i = .int .i64 k ∧ wr = w) (fun i _ => S.fs.length - (intOf i).toNat)
    case atStart => exact ⟨0, by omega, rfl, rfl⟩
    case round =>
      obtain ⟨k, hk, rfl, hw⟩ := hrel
      have hw2 := hw.symm
      subst hw2
      clear hw
      by_cases hlt : k < S.fs.length
      · obtain ⟨y, hf⟩ : ∃ f, S.fs[k]? = some f := ⟨_, List.getElem?_eq_getElem hlt⟩
        obtain ⟨_, d0, _⟩ := H.out.cells k y hf
        have hh := HNE.out k y hf
        have hp0 := ((hpg y (List.mem_of_getElem? hf)).2 hh).1
        obtain ⟨pn, hpn⟩ : ∃ pn : Int, pageNo y = pn := ⟨_, rfl⟩
        have hneg : ¬ pn < 0 := by rw [← hpn]; unfold pageNo; rw [if_pos hh]; omega
        rw [hpn] at d0
        clear hf hpn hh hp0
        obtain ⟨N, hN⟩ : ∃ N, S.fs.length = N := ⟨_, rfl⟩
        rw [hN] at hlt hk c1 hm64
        have HN := hide hN
        clear hN
        go_wp2
        go_roundw
        case rel => exact ⟨k + 1, by rw [HN.out]; omega, by go_num, by first | rfl | trivial⟩
        case measure => rw [HN.out]; simp [intOf]; omega
      · have hk' : k = S.fs.length := by omega
        go_wp2
        clear c1 hk hk' hlt hm64
        go_loopw [5] (fun i wx => ∃ (S1 : Pl (List Int)) (k : Nat), RefIs wx r gD gF cD cF dx fx fov S1 bad ∧ S1.clock k = S.clock 65 ∧ S1.nAsk < k ∧ S1.fs.length = S.fs.length ∧ S1.fo = S.fo ∧ S1.wr = S.wr ∧ (∀ f ∈ S1.fs, FmOk f) ∧ Off (RefFp r gD gF fov) w wx) (fun _ wx => askR wx gF S.fs.length)
        case atStart => exact ⟨S, 65, H.out, rfl, H.out.nAsk, rfl, rfl, rfl, hpg, Off.refl _ _⟩
        case round =>
          clear H HNE hpg
          obtain ⟨S1, k1, h1, hck, hnk, hlen, hfo1, hwr1, hsd, hK⟩ := hrel
          have hhand := h1.hand
          have hf2 := h1.f2
          obtain ⟨f, hf⟩ : ∃ f, S1.fs[S1.hand]? = some f := ⟨_, List.getElem?_eq_getElem hhand⟩
          have c1 := h1.c1
          have c2 := h1.c2
          have fz2 := h1.fzR 2
          have H1 := hide h1
          have HF := hide hf
          have HCK := hide hck
          have HNK := hide hnk
          have HLEN := hide hlen
          have HFO := hide hfo1
          have HWR := hide hwr1
          have HSD := hide hsd
          have HK := hide hK
          clear h1 hf hck hnk hlen hfo1 hwr1 hsd hK
          obtain ⟨N, hN⟩ : ∃ N, S1.fs.length = N := ⟨_, rfl⟩
          obtain ⟨hd, hhd'⟩ : ∃ hd, S1.hand = hd := ⟨_, rfl⟩
          rw [hN] at c1 hhand hf2
          rw [hhd'] at c2 hhand
          have hhd := hhand
          have hadd : IntKind.i64.wrap ((hd : Int) + 1) = (hd : Int) + 1 := by rw [IntKind.wrap_i64]; omega
          obtain ⟨hn, hhn⟩ : ∃ hn, (hd + 1) % N = hn := ⟨_, rfl⟩
          have hrem : ((hd : Int) + 1).tmod (N : Int) = (hn : Int) := by
            rw [Int.tmod_eq_emod_of_nonneg (by omega)]
            rw [← hhn]
            simp
          have HNX : Hid (S1.next = hn) := by show _ = _; unfold Pl.next; rw [hN, hhd', hhn]
          have HHD := hide hhd'
          have HN := hide hN
          have hNpos : (0 : Int) < (N : Int) := by omega
          clear hhn hN hhd'
          go_wp2
          go_region
          have hO2 : Off [r] wr (wr.setCell ⟨r, 2, none⟩ (.int .i64 (hn : Int))) := (Off.refl _ _).setCell _ _ (by simp)
          have h2 : RefIs (wr.setCell ⟨r, 2, none⟩ (.int .i64 (hn : Int))).drew r gD gF cD cF dx fx fov { S1 with hand := hn } bad :=
            (H1.out.setH hn S1.wr hO2 (by rw [heap_setCell_same _ r 2 _ _ _ H1.out.head]; rfl) (by rw [HN.out]; rw [← HNX.out]; unfold Pl.next; rw [HN.out]; exact Nat.mod_lt _ (by omega))).stay (fun k hk => rfl)
          have HK2 : Hid (Off (RefFp r gD gF fov) w (wr.setCell ⟨r, 2, none⟩ (.int .i64 (hn : Int))).drew) := (HK.out.trans hO2 (fun k hk => by simp at hk; subst hk; exact .inl (by simp [RefFp]))).drew
          have HA1 : Hid (askR wr gF S.fs.length = S1.nAsk) := by show _ = _; rw [← HLEN.out]; exact H1.out.askR
          clear c1 c2 fz2 hO2 HK H1
          generalize (wr.setCell ⟨r, 2, none⟩ (.int .i64 (hn : Int))).drew = W at *
          have hf2' : ({ S1 with hand := hn } : Pl (List Int)).fs[hd]? = some f := by rw [← HHD.out]; exact HF.out
          obtain ⟨hi, _, _, _, d3, _⟩ := h2.cells hd f hf2'
          have c1 := h2.c1
          have g3 := h2.fzF (hd * 6 + 3)
          rw [show ({ S1 with hand := hn } : Pl (List Int)).fs.length = N from HN.out] at c1
          have H2 := hide h2
          have HF2 := hide hf2'
          clear h2 hf2' hi
          obtain ⟨k2, rfl⟩ : ∃ k2, k1 = k2 + 1 := ⟨k1 - 1, by have := HNK.out; omega⟩
          have HST : Hid (S1.clock (k2 + 1) = if f.asked = true then Pl.clock k2 { S1 with fs := S1.fs.set hd f.unasked, hand := hn } else (hd, { S1 with hand := hn })) := by
            show _ = _
            rw [Pl.clock, HF.out]
            simp only [HNX.out, HHD.out]
          by_cases ha : f.asked = true
          · rw [ha] at d3
            have HA := hide ha
            clear ha
            go_wp2
            go_roundw
            case rel =>
              refine ⟨{ S1 with fs := S1.fs.set hd f.unasked, hand := hn }, k2, H2.out.mark hd f HF2.out false, ?_, ?_, ?_, HFO.out, HWR.out, ?_, ?_⟩
              · rw [← HCK.out, HST.out, if_pos HA.out]
              · have := nAsk_unmark S1 hd f (by rw [← HHD.out]; exact HF.out) HA.out hn
                have h3 := HNK.out
                omega
              · rw [← HLEN.out]; exact List.length_set
              · intro y hy
                rcases List.mem_or_eq_of_mem_set hy with h3 | h3
                · exact HSD.out y h3
                · rw [h3]; exact HSD.out f (List.mem_of_getElem? HF.out)
              · exact HK2.out.setCell _ _ (.inl (by simp [RefFp]))
            case measure =>
              have h3 := H2.out.mark hd f HF2.out false
              have h4 := h3.askR
              have h5 := nAsk_unmark S1 hd f (by rw [← HHD.out]; exact HF.out) HA.out hn
              have h6 := HA1.out
              have h7 : ({ S1 with fs := S1.fs.set hd f.unasked, hand := hn } : Pl (List Int)).fs.length = S.fs.length := by rw [← HLEN.out]; exact List.length_set
              have h4 : askR (W.setCell ⟨gF, hd * 6 + 3, none⟩ (.bool false)) gF ({ S1 with fs := S1.fs.set hd f.unasked, hand := hn } : Pl (List Int)).fs.length = ({ S1 with fs := S1.fs.set hd f.unasked, hand := hn } : Pl (List Int)).nAsk := h4
              rw [h7] at h4
              omega
          · have HA := hide ha
            have ha' : f.asked = false := by simpa using ha
            rw [ha'] at d3
            clear ha ha'
            have HFR : Hid (S.rfree bad = ((Pl.rwrote bad { S1 with hand := hn } f).1, hd, (Pl.rwrote bad { S1 with hand := hn } f).2)) := by
              show _ = _
              have e : S.pick = (hd, { S1 with hand := hn }) := by rw [HPK.out, ← HCK.out, HST.out, if_neg HA.out]
              unfold Pl.rfree
              rw [e]
              simp only [HF2.out]
            have HW := hide (rwrite_any H2.out hd f HF2.out (by simp only; rw [HFO.out]; exact hfo) (by have := HWR.out; simp only; omega) (HSD.out f (List.mem_of_getElem? HF.out)).dirty)
            obtain ⟨⟨x, T⟩, hT⟩ : ∃ T, Pl.rwrote bad { S1 with hand := hn } f = T := ⟨_, rfl⟩
            rw [hT] at HW HFR
            clear hT HST HCK HPK
            go_wp2_with (go_at_call 44; refine HW.out.mono ?_; rintro e w3 ⟨rfl, h3⟩)
            go_ret2
            rw [HFR.out]
            obtain ⟨fp', a1, a2, a3⟩ := h3
            exact ⟨rfl, fp', a1, HK2.out.trans a2 (fun k hk => .inl hk), fun k hk => (a3 k hk).imp id (fun h => Nat.le_trans HK2.out.size h)⟩
end
end Go.Proofs.Ytifoafiidplpiaa
