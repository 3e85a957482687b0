/- AuditChecks, of any packets, any that were sent, and any numbers, by what Check and Bytes tell. -/
import Derived.Test.YtolbmkniafkeaaaDoorCAuLaw
namespace Go.Proofs.YtolbmkniafkeaaaDoor
open Go.RowKit

theorem auLaw_any (AW : AuditWalks) (pa : Option Addr) (pcap : Nat) (ps : List Pk) (per : Int) (la : Option Addr) (lcap : Nat) (l : List Sn) (f x y : Int) (w : World) (ad : Nat → Addr) (he : Errs9 w ad) (hp : LiesP w pa ps) (hpc : ps.length ≤ pcap) (hpm : pcap ≤ maxLen) (hpa : pa = none → ps = [] ∧ pcap = 0) (hl : LiesS w la l) (hlc : l.length ≤ lcap) (hlm : lcap ≤ maxLen) (hla : la = none → l = [] ∧ lcap = 0) :
    Calls Tryd.prog 3 #[.slice pa ps.length pcap, .int .i64 per, .slice la l.length lcap, .int .i64 f, .int .i64 x, .int .i64 y] w fun e w' => e = .returned (.bool true) ∧ Below w.heap.size w w' := by
  by_cases hm : ps.length ≤ 60 ∨ ps.length = 301
  · by_cases hll : l.length ≤ 80
    · by_cases ht : tameAll l
      · obtain ⟨c, p, hq⟩ := pksFault_is ps
        rcases hq.num with ⟨rfl, rfl, ho⟩ | hc
        · obtain ⟨c, p, hs⟩ := sentFault_is ps.length l
          rcases hs with hs | hs
          · have hc : 0 < c := by
              obtain ⟨_, _, _, _, _, rfl, _⟩ := hs
              decide
            exact auLaw_sent AW pa pcap ps per la lcap l f x y w ad he hp hpa hpc hpm hl hla hm hll ht ho c p (.inl hs) hc
          · have hs0 : SentFaultIs ps.length l 0 (-1) := .inr ⟨hs.1, rfl, rfl⟩
            by_cases hf0 : f < 0
            · exact auLaw_f0 AW pa pcap ps per la lcap l f x y w ad he hp hpa hpc hpm hl hla hm hll ht ho hs0 hf0
            · by_cases hf8 : 8 ≤ f
              · exact auLaw_f8 AW pa pcap ps per la lcap l f x y w ad he hp hpa hpc hpm hl hla hm hll ht ho hs0 hf0 hf8
              · exact auLaw_ok AW pa pcap ps per la lcap l f x y w ad he hp hpa hpc hpm hl hla hm hll ht ho hs0 hf0 hf8
        · exact auLaw_pks AW pa pcap ps per la lcap l f x y w ad he hp hpa hpc hpm hl hla hm hll ht c p hq hc
      · exact auLaw_wild AW pa _ pcap per la lcap l f x y w ad he (Nat.le_trans hpc hpm) (by omega) hl hll ht
    · exact auLaw_more AW pa _ pcap per la _ lcap f x y w ad he (Nat.le_trans hpc hpm) (by omega) (Nat.le_trans hlc hlm) (by omega)
  · exact auLaw_many AW pa _ pcap per la _ lcap f x y w ad he (by omega) (by omega)
end Go.Proofs.YtolbmkniafkeaaaDoor
