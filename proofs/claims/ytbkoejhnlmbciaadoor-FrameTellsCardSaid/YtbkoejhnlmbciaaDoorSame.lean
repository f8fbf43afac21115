/-
  The law's own comparison of lists of bytes (rolodexlaw4.same).
-/
import Derived.Test.YtbkoejhnlmbciaaDoorRScan
namespace Go.Proofs.YtbkoejhnlmbciaaDoor
open Go.ChangeShapes Go.WideShapes Go.ChangeAt Go.RowKit Go.Deep
set_option linter.unusedVariables false
set_option linter.unusedSimpArgs false

theorem take_eq_snoc {α : Type} {a b : List α} {k : Nat} (ha : k < a.length) (hb : k < b.length) (h : a.take k = b.take k) (he : a[k] = b[k]) : a.take (k + 1) = b.take (k + 1) := by
  rw [List.take_succ_eq_append_getElem ha, List.take_succ_eq_append_getElem hb, h, he]
theorem text_of_inj {a b : List UInt8} (h : (⟨a.toArray⟩ : ByteArray) = ⟨b.toArray⟩) : a = b := by
  have := congrArg (fun b : ByteArray => b.data.toList) h
  simpa using this
set_option maxRecDepth 100000 in
set_option maxHeartbeats 4000000 in
theorem same_any (va : Value) (la : List (List UInt8)) (vb : Value) (lb : List (List UInt8)) (w : World) (ha : HasL w va la) (hb : HasL w vb lb) :
    Calls Tryd.prog 12 #[va, vb] w fun e w' => e = .returned (.bool (decide (la = lb))) ∧ ∃ n, w' = w.drewN n := by
  obtain ⟨b1, o1, cap1, p1, rfl, hc1, hd1, HP1, HC1⟩ := ha.open
  obtain ⟨b2, o2, cap2, p2, rfl, hc2, hd2, HP2, HC2⟩ := hb.open
  have hm1 : (cap1 : Int) ≤ 9223372036854775807 := by unfold maxLen at hd1; omega
  have hm2 : (cap2 : Int) ≤ 9223372036854775807 := by unfold maxLen at hd2; omega
  have HD1 := Lib.hid hd1
  have HD2 := Lib.hid hd2
  clear ha hb hd1 hd2
  by_cases hlen : la.length = lb.length
  · have hl' : (la.length : Int) = (lb.length : Int) := by omega
    have HL := Lib.hid hlen
    clear hlen
    go_enter Tryd.func12, Tryd.ntmps12
    go_wp2
    go_loopw [5] (fun vi wr => ∃ (k n : Nat), k ≤ la.length ∧ vi = .int .i64 k ∧ Hid (la.take k = lb.take k) ∧ Hid (wr = w.drewN n)) (fun vi _ => la.length - (intOf vi).toNat)
    case atStart => exact ⟨0, 0, Nat.zero_le _, rfl, Lib.hid rfl, Lib.hid rfl⟩
    case round =>
      obtain ⟨k, n, hk, rfl, HT, HW⟩ := hrel
      rcases Nat.lt_or_ge k la.length with hlt | hge
      · have hlt1 : (k : Int) < (la.length : Int) := by omega
        have hlt2 : (k : Int) < (lb.length : Int) := by omega
        have hkb : k < lb.length := by have := HL.out; omega
        obtain ⟨x1, hx1, hh1⟩ := HC1.out k hlt
        obtain ⟨x2, hx2, hh2⟩ := HC2.out k hkb
        have hp1 := (HP1.out (by omega)).1
        have hp2 := (HP2.out (by omega)).1
        subst hp1
        subst hp2
        obtain ⟨sA, hsA⟩ : ∃ sA : ByteArray, sA = ⟨(la[k]).toArray⟩ := ⟨_, rfl⟩
        obtain ⟨sB, hsB⟩ : ∃ sB : ByteArray, sB = ⟨(lb[k]).toArray⟩ := ⟨_, rfl⟩
        obtain ⟨bq, hbq⟩ : ∃ bq : Bool, (sA.toList == sB.toList) = !bq := ⟨!(sA.toList == sB.toList), by simp⟩
        have HBQ := Lib.hid hbq
        have hS : (wr.drew.cell? ⟨b1, o1 + k, none⟩ = some x1 ∧ (convert 23 9 x1).run Tryd.prog wr.drew = .ok (.string sA) wr.drew) ∧ (wr.drew.cell? ⟨b2, o2 + k, none⟩ = some x2 ∧ (convert 23 9 x2).run Tryd.prog wr.drew = .ok (.string sB) wr.drew) := by
          rw [HW.out, hsA, hsB]
          exact ⟨⟨hx1, HasA.string (w := w.drewN n) (hh1.drewN n) 1⟩, ⟨hx2, HasA.string (w := w.drewN n) (hh2.drewN n) 1⟩⟩
        have HEQ : Hid (sA = sB ↔ la[k] = lb[k]) := Lib.hid ⟨fun h => text_of_inj (by rw [← hsA, ← hsB, h]), fun h => by rw [hsA, hsB, h]⟩
        clear hx1 hh1 hx2 hh2 hsA hsB hbq
        go_wp2_with fail
        refine wp_region_held_drew (S := fun w' => (w'.cell? ⟨b1, o1 + k, none⟩ = some x1 ∧ (convert 23 9 x1).run Tryd.prog w' = .ok (.string sA) w') ∧ (w'.cell? ⟨b2, o2 + k, none⟩ = some x2 ∧ (convert 23 9 x2).run Tryd.prog w' = .ok (.string sB) w')) (by kernel_rfl) hS (fun hHeld => ?_)
        refine wpAnyH_take (i := 0) (oi := _) (v := ?_) rfl (by kernel_rfl) (by kernel_rfl) (by kernel_rfl) (fun _ _ _ h => h) (Or.inl ⟨by rfl, ?hy⟩) (by assumption) ?rest
        case hy =>
          intro w9 hSw
          try dsimp only at hSw
          try simp only [List.getElem_toArray, List.getElem_cons_zero, List.getElem_cons_succ]
          go_simp
          try with_reducible rfl
        case rest =>
          try simp only [Act.put, List.setIfInBounds_toArray, List.set_cons_zero, List.set_cons_succ, List.getElem_toArray, List.getElem_cons_zero, List.getElem_cons_succ]
          refine wpAnyH_take (i := 1) (oi := _) (v := ?_) rfl (by kernel_rfl) (by kernel_rfl) (by kernel_rfl) (fun _ _ _ h => h) (Or.inl ⟨by rfl, ?hy⟩) (by assumption) ?rest
          case hy =>
            intro w9 hSw
            try dsimp only at hSw
            try simp only [List.getElem_toArray, List.getElem_cons_zero, List.getElem_cons_succ]
            go_simp
            try with_reducible rfl
          case rest =>
            try simp only [Act.put, List.setIfInBounds_toArray, List.set_cons_zero, List.set_cons_succ, List.getElem_toArray, List.getElem_cons_zero, List.getElem_cons_succ]
            refine wpAnyH_take (i := 2) (oi := _) (v := ?_) rfl (by kernel_rfl) (by kernel_rfl) (by kernel_rfl) (fun _ _ _ h => h) (Or.inl ⟨by rfl, ?hy⟩) (by assumption) ?rest
            case hy =>
              intro w9 hSw
              try dsimp only at hSw
              try simp only [List.getElem_toArray, List.getElem_cons_zero, List.getElem_cons_succ]
              go_simp
              try with_reducible rfl
            case rest =>
              try simp only [Act.put, List.setIfInBounds_toArray, List.set_cons_zero, List.set_cons_succ, List.getElem_toArray, List.getElem_cons_zero, List.getElem_cons_succ]
              refine wpAnyH_take (i := 3) (oi := _) (v := ?_) rfl (by kernel_rfl) (by kernel_rfl) (by kernel_rfl) (fun _ _ _ h => h) (Or.inl ⟨by rfl, ?hy⟩) (by assumption) ?rest
              case hy =>
                intro w9 hSw
                try dsimp only at hSw
                try simp only [List.getElem_toArray, List.getElem_cons_zero, List.getElem_cons_succ]
                go_simp
                try with_reducible rfl
              case rest =>
                try simp only [Act.put, List.setIfInBounds_toArray, List.set_cons_zero, List.set_cons_succ, List.getElem_toArray, List.getElem_cons_zero, List.getElem_cons_succ]
                refine wpAnyH_take (i := 4) (oi := _) (v := ?_) rfl (by kernel_rfl) (by kernel_rfl) (by kernel_rfl) (fun _ _ _ h => h) (Or.inl ⟨by rfl, ?hy⟩) (by assumption) ?rest
                case hy =>
                  intro w9 hSw
                  try dsimp only at hSw
                  try simp only [List.getElem_toArray, List.getElem_cons_zero, List.getElem_cons_succ]
                  go_simp
                  try with_reducible rfl
                case rest =>
                  try simp only [Act.put, List.setIfInBounds_toArray, List.set_cons_zero, List.set_cons_succ, List.getElem_toArray, List.getElem_cons_zero, List.getElem_cons_succ]
                  refine wpAnyH_take (i := 5) (oi := _) (v := ?_) rfl (by kernel_rfl) (by kernel_rfl) (by kernel_rfl) (fun _ _ _ h => h) (Or.inl ⟨by rfl, ?hy⟩) (by assumption) ?rest
                  case hy =>
                    intro w9 hSw
                    try dsimp only at hSw
                    try simp only [List.getElem_toArray, List.getElem_cons_zero, List.getElem_cons_succ]
                    go_simp
                    try with_reducible rfl
                  case rest =>
                    try simp only [Act.put, List.setIfInBounds_toArray, List.set_cons_zero, List.set_cons_succ, List.getElem_toArray, List.getElem_cons_zero, List.getElem_cons_succ]
                    refine wpAnyH_take (i := 6) (oi := _) (v := ?_) rfl (by kernel_rfl) (by kernel_rfl) (by kernel_rfl) (fun _ _ _ h => h) (Or.inl ⟨by rfl, ?hy⟩) (by assumption) ?rest
                    case hy =>
                      intro w9 hSw
                      try dsimp only at hSw
                      try simp only [List.getElem_toArray, List.getElem_cons_zero, List.getElem_cons_succ]
                      go_simp
                      try with_reducible rfl
                    case rest =>
                      try simp only [Act.put, List.setIfInBounds_toArray, List.set_cons_zero, List.set_cons_succ, List.getElem_toArray, List.getElem_cons_zero, List.getElem_cons_succ]
                      refine wpAnyH_take (i := 7) (oi := _) (v := ?_) rfl (by kernel_rfl) (by kernel_rfl) (by kernel_rfl) (fun _ _ _ h => h) (Or.inl ⟨by rfl, ?hy⟩) (by assumption) ?rest
                      case hy =>
                        intro w9 hSw
                        try dsimp only at hSw
                        try simp only [List.getElem_toArray, List.getElem_cons_zero, List.getElem_cons_succ]
                        go_simp
                        try with_reducible rfl
                      case rest =>
                        try simp only [Act.put, List.setIfInBounds_toArray, List.set_cons_zero, List.set_cons_succ, List.getElem_toArray, List.getElem_cons_zero, List.getElem_cons_succ]
                        refine wpAnyH_take (i := 8) (oi := _) (v := ?_) rfl (by kernel_rfl) (by kernel_rfl) (by kernel_rfl) (fun _ _ _ h => h) (Or.inl ⟨by rfl, ?hy⟩) (by assumption) ?rest
                        case hy =>
                          intro w9 hSw
                          try dsimp only at hSw
                          try simp only [List.getElem_toArray, List.getElem_cons_zero, List.getElem_cons_succ]
                          go_simp
                          try with_reducible rfl
                        case rest =>
                          try simp only [Act.put, List.setIfInBounds_toArray, List.set_cons_zero, List.set_cons_succ, List.getElem_toArray, List.getElem_cons_zero, List.getElem_cons_succ]
                          refine wpAnyH_take (i := 9) (oi := _) (v := ?_) rfl (by kernel_rfl) (by kernel_rfl) (by kernel_rfl) (fun _ _ _ h => h) (Or.inl ⟨by rfl, ?hy⟩) (by assumption) ?rest
                          case hy =>
                            intro w9 hSw
                            try dsimp only at hSw
                            try simp only [List.getElem_toArray, List.getElem_cons_zero, List.getElem_cons_succ]
                            go_simp
                            try with_reducible rfl
                          case rest =>
                            try simp only [Act.put, List.setIfInBounds_toArray, List.set_cons_zero, List.set_cons_succ, List.getElem_toArray, List.getElem_cons_zero, List.getElem_cons_succ]
                            refine wpAnyH_take (i := 10) (oi := _) (v := (.bool bq)) rfl (by kernel_rfl) (by kernel_rfl) (by kernel_rfl) (fun _ _ _ h => h) (Or.inl ⟨by rfl, ?hy⟩) (by assumption) ?rest
                            case hy =>
                              intro w9 hSw
                              try dsimp only at hSw
                              try simp only [List.getElem_toArray, List.getElem_cons_zero, List.getElem_cons_succ]
                              go_simp
                              rw [HBQ.out]
                              try simp
                            case rest =>
                              try simp only [Act.put, List.setIfInBounds_toArray, List.set_cons_zero, List.set_cons_succ, List.getElem_toArray, List.getElem_cons_zero, List.getElem_cons_succ]
                              refine wpAnyH_done (by kernel_rfl) ?_ _
                              by_cases he : sA = sB
                              · obtain rfl : bq = false := by
                                  have h1 := HBQ.out
                                  rw [(text_eq_iff _ _).2 he] at h1
                                  cases bq
                                  · rfl
                                  · cases h1
                                have HN := Lib.hid (take_eq_snoc hlt hkb HT.out (HEQ.out.1 he))
                                clear he hS hHeld
                                go_wp2
                                go_roundw
                                case rel => exact ⟨k + 1, n + 1, by omega, by go_num, HN, Lib.hid (by rw [HW.out]; rfl)⟩
                                case measure => simp [intOf]; omega
                              · obtain rfl : bq = true := by
                                  have h1 := HBQ.out
                                  rw [(text_ne_iff _ _).2 he] at h1
                                  cases bq
                                  · cases h1
                                  · rfl
                                have HN : Hid (decide (la = lb) = false) := Lib.hid (decide_eq_false (fun h => he (HEQ.out.2 (by subst h; rfl))))
                                clear he hS hHeld
                                go_wp2
                                go_ret
                                exact ⟨by rw [HN.out]; rfl, n + 1, by rw [HW.out]; rfl⟩
      · have hge1 : ¬ (k : Int) < (la.length : Int) := by omega
        have HN : Hid (decide (la = lb) = true) := Lib.hid (decide_eq_true (by
          have h := HT.out
          rw [List.take_of_length_le hge, List.take_of_length_le (by have := HL.out; omega)] at h
          exact h))
        go_wp2
        go_ret
        exact ⟨by rw [HN.out]; rfl, n, HW.out⟩
  · have hl' : ¬ (la.length : Int) = (lb.length : Int) := by omega
    have HN : Hid (decide (la = lb) = false) := Lib.hid (decide_eq_false (fun h => hlen (by rw [h])))
    clear hlen
    go_enter Tryd.func12, Tryd.ntmps12
    go_wp2
    go_ret
    exact ⟨by rw [HN.out]; rfl, 0, rfl⟩
end Go.Proofs.YtbkoejhnlmbciaaDoor
